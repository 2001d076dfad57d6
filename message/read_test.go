package message_test

import (
	"bytes"
	"fmt"
	"slices"
	"testing"

	"bulwark/api"
	"bulwark/message"
)

// cuts: where bytes are cut off; of many bytes, at some places and at both ends.
func cuts(size int) []int {
	var out []int
	for i := range size {
		if size < 2000 || i < 100 || i > size-100 || i%199 == 0 {
			out = append(out, i)
		}
	}
	return out
}

func TestP1302ReadCutOff(t *testing.T) {
	notRead(t, "nil", nil)
	notRead(t, "no bytes", []byte{})
	for _, n := range rightBodies() {
		b := formOf(n.x)
		for _, i := range cuts(len(b)) {
			notRead(t, fmt.Sprintf("%s: %d bytes of %d", n.name, i, len(b)), b[:i])
		}
	}
	for name, w := range byHand() {
		for i := range w.b {
			notRead(t, fmt.Sprintf("%s: %d bytes of %d", name, i, len(w.b)), w.b[:i])
			if i > 0 {
				notRead(t, fmt.Sprintf("%s: without the first %d", name, i), w.b[i:])
			}
		}
	}
}

func TestP1302ReadMoreBehind(t *testing.T) {
	for _, n := range rightBodies() {
		b := formOf(n.x)
		for _, more := range [][]byte{{0}, {1}, {128}, {255}, {0, 0, 0}, b} {
			notRead(t, n.name+", more behind", join(b, more))
		}
	}
}

// stretched: a number's form with a byte more than it needs.
func stretched(form []byte) []byte {
	last := len(form) - 1
	return join(form[:last], []byte{form[last] | 128, 0})
}

// P1302: numbers that are not in their shortest form, each one of a body's bytes.
func TestP1302ReadShortestForm(t *testing.T) {
	sum, tag := text(fill(32)), text(fill(32))
	q := formOfRequest(issued(101, 1, scan()))
	r := formOfResult(api.Result{})
	n := func(x uint64) []byte { return number(x) }
	for name, parts := range map[string][][]byte{
		"commit":      {n(4), n(1), n(2), n(32), sum[1:], n(0), n(0), n(0)},
		"great":       {n(2), n(most), n(most), n(32), sum[1:], n(0), n(0), n(0)},
		"request":     {n(1), n(0), n(0), n(0), n(1), n(uint64(len(q))), q, n(0), n(0)},
		"ask":         {n(13), n(0), n(0), n(0), n(1), n(uint64(len(q))), q, n(0), n(0)},
		"reply":       {n(5), n(0), n(0), n(0), n(0), n(101), n(300), n(7), n(3), r, n(0), n(0)},
		"view change": {n(7), n(1), n(4), n(0), n(0), n(1), n(3), n(0), n(32), tag[1:], n(2), n(0), n(1), n(300), n(1), n(9), n(32), tag[1:]},
		"shown":       {n(14), n(0), n(4), n(0), n(0), n(3), n(0), n(0), n(0), n(0), n(0), n(0), n(0), n(0), n(0), n(0)},
	} {
		if _, kind := message.Read(join(parts...)); kind != api.OK {
			t.Errorf("%s: %d", name, kind)
		}
		for i, part := range parts {
			if len(part) > 10 || name == "reply" && i == 9 || name == "view change" && i == 15 {
				continue // no number
			}
			changed := slices.Clone(parts)
			changed[i] = stretched(part)
			notRead(t, fmt.Sprintf("%s: number %d", name, i), join(changed...))
			changed[i] = []byte{255, 255, 255, 255, 255, 255, 255, 255, 255, 2}
			notRead(t, fmt.Sprintf("%s: number %d, above 2^64 - 1", name, i), join(changed...))
		}
	}
	// within the bytes of a request, of a result
	notRead(t, "a request's Client", join([]byte{1, 0, 0, 0, 1}, text(join([]byte{229, 0}, q[1:])), []byte{0, 0}))
	notRead(t, "a request's Stamp", join([]byte{1, 0, 0, 0, 1}, text(join(q[:1], []byte{129, 0}, q[2:])), []byte{0, 0}))
	notRead(t, "a result's E", []byte{5, 0, 0, 0, 0, 1, 1, 0, 4, 128, 0, 0, 0, 0, 0})
	notRead(t, "a result's More", []byte{5, 0, 0, 0, 0, 1, 1, 0, 3, 0, 0, 2, 0, 0})
}

// P1302: bytes that a request, a result has too many or too few.
func TestP1302ReadWithin(t *testing.T) {
	q := formOfRequest(issued(101, 1, scan()))
	around := func(kind byte, form []byte) []byte { return join([]byte{kind, 0, 0, 0, 1}, text(form), []byte{0, 0}) }
	for _, kind := range []byte{aRequest, anAsk} {
		x := body{Kind: int(kind), Reqs: []api.Request{issued(101, 1, scan())}}
		read(t, "as it is", around(kind, q), x)
		notRead(t, "a byte behind a request", around(kind, append(slices.Clone(q), 0)))
		notRead(t, "a request and one more", around(kind, join(q, q)))
		for i := range q {
			notRead(t, "a request cut off", around(kind, q[:i]))
		}
		notRead(t, "many bytes for a request", around(kind, make([]byte, 1<<20)))
	}
	reply := func(form []byte) []byte { return join([]byte{5, 0, 0, 0, 0, 1, 1, 0}, text(form), []byte{0, 0}) }
	r := formOfResult(api.Result{E: api.Missing, Cells: cells(2), More: true})
	read(t, "as it is", reply(r), body{Kind: aReply, Reply: answered(1, 1, 0, api.Result{E: api.Missing, Cells: cells(2), More: true})})
	notRead(t, "a byte behind a result", reply(append(slices.Clone(r), 0)))
	for i := range r {
		notRead(t, "a result cut off", reply(r[:i]))
	}
	notRead(t, "many bytes for a result", reply(make([]byte, 1<<20)))
}

// P1302: bytes of bodies that are not right.
func TestP1302ReadOfWrong(t *testing.T) {
	for _, n := range plainBodies() {
		for _, c := range changes() {
			x := n.x
			c.make(&x)
			y := x
			if y.Kind != aReply {
				y.Reply = api.Reply{} // which its bytes do not have
			}
			if !meant(y) {
				notRead(t, n.name+", "+c.name, formOf(x))
			}
		}
	}
	for kind := range 140 {
		x := body{Kind: kind}
		judged(t, fmt.Sprint("nothing of kind ", kind), x)
	}
	notRead(t, "the greatest kind", join(number(uint64(greatest)), []byte{0, 0, 0, 0, 0, 0}))
	notRead(t, "the kind 2^32 and 9", join(number(uint64(1<<32+9)), []byte{0, 0, 0, 0, 0, 0}))
	notRead(t, "the kind 256 and 9", join(number(265), []byte{0, 0, 0, 0, 0, 0}))
}

// P1302: a reply's part stands in a reply alone.
func TestP1302ReadReplyElsewhere(t *testing.T) {
	for _, n := range plainBodies() {
		x := n.x
		b := join(number(x.Kind), number(x.View), number(x.Seq), text(x.Sum), number(len(x.Reqs)))
		for _, q := range x.Reqs {
			b = append(b, text(formOfRequest(q))...)
		}
		if x.Kind != aReply {
			b = append(b, formOfReply(answered(1, 1, 0, api.Result{}))...)
		}
		b = append(b, formOfTexts(x.Cert)...)
		b = append(b, number(len(x.Sets))...)
		for _, set := range x.Sets {
			b = append(b, formOfTexts(set)...)
		}
		notRead(t, n.name+" with, or without a reply", b)
	}
}

// P1302: numbers of things that are not there, whatever they promise.
func TestP1302ReadHowMany(t *testing.T) {
	for _, n := range []uint64{1, 2, 16, 17, 127, 128, 1 << 20, 1 << 31, 1 << 32, 1 << 62, 1 << 63, greatest} {
		what := fmt.Sprint(n)
		notRead(t, what+" bytes of a Sum", join([]byte{4, 0, 0}, number(n)))
		notRead(t, what+" requests", join([]byte{1, 0, 0, 0}, number(n)))
		notRead(t, what+" bytes of a request", join([]byte{1, 0, 0, 0, 1}, number(n)))
		notRead(t, what+" bytes of a result", join([]byte{5, 0, 0, 0, 0, 1, 1, 0}, number(n)))
		notRead(t, what+" texts", join([]byte{7, 0, 0, 0, 0}, number(n)))
		notRead(t, what+" bytes of a B", join([]byte{7, 0, 0, 0, 0, 1, 1}, number(n)))
		notRead(t, what+" bytes of a Tag", join([]byte{7, 0, 0, 0, 0, 1, 1, 0}, number(n)))
		notRead(t, what+" sets", join([]byte{7, 0, 0, 0, 0, 0}, number(n)))
		notRead(t, what+" texts of a set", join([]byte{7, 0, 0, 0, 0, 0, 1}, number(n)))
	}
}

// P1302: bytes that are handed in are neither changed nor kept, spare room too; no two lists of an answer share memory.
func TestP1302ReadMemory(t *testing.T) {
	for _, n := range slices.Concat(rightBodies(), longBodies()) {
		want := wholly(n.x)
		whole := append(formOf(n.x), 7, 8, 9)
		before := bytes.Clone(whole)
		x, kind := message.Read(whole[:len(whole)-3])
		is(t, n.name, kind, api.OK)
		same(t, n.name+": handed in", whole, before)
		again, _ := message.Read(whole[:len(whole)-3])
		spoilBytes(whole)
		same(t, n.name+": behind a change of the bytes", wholly(x), want)
		spoil(&x)
		same(t, n.name+": behind a change of another answer", wholly(again), want)
		apart(t, n.name, again)
	}
}

// apart: what is written into one list of bytes, spare room too, is seen in no other one.
func apart(t *testing.T, what string, x body) {
	t.Helper()
	lists := [][]byte{x.Sum}
	for _, q := range x.Reqs {
		lists = append(lists, q.O.Value, q.O.Want)
		for _, part := range q.O.Sub {
			lists = append(lists, part.Value, part.Want)
		}
	}
	for _, c := range x.Reply.R.Cells {
		lists = append(lists, c.Value)
	}
	for _, l := range append(slices.Clone(x.Sets), x.Cert) {
		for _, s := range l {
			lists = append(lists, s.B, s.Tag)
		}
	}
	for i, l := range lists {
		overwrite(l, byte(i))
	}
	for i, l := range lists {
		for _, b := range l[:cap(l)] {
			if b != byte(i) {
				t.Errorf("%s: list %d shares memory", what, i)
				return
			}
		}
	}
	all := append(slices.Clone(x.Sets), x.Cert)
	for i, l := range all {
		overwrite(l, signed{From: uint64(i + 1)})
	}
	for i, l := range all {
		for _, s := range l[:cap(l)] {
			is(t, what+": a list of texts", s.From, uint64(i+1))
		}
	}
}
