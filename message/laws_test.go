package message_test

import (
	"bytes"
	"fmt"
	"math/rand"
	"slices"
	"testing"

	"bulwark/api"
	"bulwark/message"
)

// P1304: what was put is read, alike in all, and put again it is the same bytes.
func TestP1304PutAndRead(t *testing.T) {
	for _, n := range slices.Concat(rightBodies(), longBodies()) {
		b := bytesOf(t, n.name, n.x)
		x, kind := message.Read(b)
		is(t, n.name+": Read", kind, api.OK)
		is(t, n.name+": Same", message.Same(x, n.x), true)
		is(t, n.name+": Right", message.Right(x), api.OK)
		same(t, n.name+": put again", bytesOf(t, n.name, x), b)
	}
}

// lawful: bytes are read just if they are a right body's, and put as they were.
func lawful(t *testing.T, what string, b []byte) bool {
	t.Helper()
	x, kind := message.Read(b)
	if kind != api.OK {
		is(t, what+": Read", kind, api.BadForm)
		same(t, what+": the body beside a kind", wholly(x), wholly(body{}))
		return false
	}
	is(t, what+": by the words", meant(x), true)
	same(t, what+": put as it was", bytesOf(t, what, x), b)
	same(t, what+": the form", formOf(x), b)
	return true
}

// P1304: each byte of a body's changed, taken out and put in.
func TestP1304ChangedBytes(t *testing.T) {
	count := 0
	for name, w := range byHand() {
		for i := range w.b {
			for _, with := range []byte{0, 1, 2, 3, 4, 5, 14, 16, 17, 31, 32, 33, 127, 128, 129, 255} {
				changed := bytes.Clone(w.b)
				changed[i] = with
				if lawful(t, fmt.Sprintf("%s: %d at %d", name, with, i), changed) {
					count++
				}
				lawful(t, fmt.Sprintf("%s: %d put in at %d", name, with, i), slices.Insert(bytes.Clone(w.b), i, with))
			}
			lawful(t, fmt.Sprintf("%s: without %d", name, i), slices.Delete(bytes.Clone(w.b), i, i+1))
		}
	}
	if count < 1000 {
		t.Errorf("only %d changed bytes were read", count)
	}
}

// P1304: short bytes, each one of few numbers.
func TestP1304ShortBytes(t *testing.T) {
	digits := []byte{0, 1, 2, 5, 7, 8, 9, 12, 14, 128}
	var walk func(b []byte, left int)
	count := 0
	walk = func(b []byte, left int) {
		if lawful(t, fmt.Sprint(b), b) {
			count++
		}
		if left == 0 {
			return
		}
		for _, d := range digits {
			if len(b) > 2 && d > 2 {
				continue // behind View and Seq only counts are left
			}
			walk(append(slices.Clone(b), d), left-1)
		}
	}
	walk(nil, 8)
	if count < 50 {
		t.Errorf("only %d short bytes were read", count)
	}
}

// dice: bodies by chance, of a source that always tells the same.
type dice struct{ *rand.Rand }

func (d dice) number() uint64 {
	return []uint64{0, 1, uint64(d.Intn(300)), most - uint64(d.Intn(2)), d.Uint64() >> d.Intn(64), most + 1, greatest}[d.Intn(7)]
}

func (d dice) small() uint64 {
	return []uint64{0, 1, uint64(d.Intn(300)), most, d.Uint64() >> (2 + d.Intn(60))}[d.Intn(5)]
}

func (d dice) client() uint64 {
	return 1 + d.Uint64()>>(1+d.Intn(63))
}

func (d dice) bytes(most int) []byte {
	b := make([]byte, d.Intn(most+1))
	d.Read(b)
	return b
}

func (d dice) texts(from, to int, plain bool) []signed {
	var out []signed
	for range from + d.Intn(to-from+1) {
		s := signed{B: d.bytes(200)}
		if !plain {
			s.From, s.Tag = d.client(), fill(32)
			d.Read(s.Tag)
		}
		out = append(out, s)
	}
	return out
}

// body: a right one, of any kind.
func (d dice) body() body {
	kind := 1 + d.Intn(14)
	r := table()[kind]
	x := body{Kind: kind}
	if r.view {
		x.View = d.small()
	}
	if r.seq {
		x.Seq = d.small()
	}
	if r.sum {
		x.Sum = fill(32)
		d.Read(x.Sum)
	}
	for range r.reqs {
		o := slices.Concat(reading(), writing())[d.Intn(len(reading())+len(writing()))]
		if kind == anAsk {
			o = reading()[d.Intn(len(reading()))]
		}
		x.Reqs = append(x.Reqs, issued(d.client(), d.client(), o))
	}
	if r.reply {
		x.Reply = answered(d.client(), d.client(), d.small(), rightResults()[d.Intn(len(rightResults()))])
	}
	x.Cert = d.texts(r.certFrom, r.certTo, kind == aState || kind == aShown)
	for range r.setsFrom + d.Intn(r.setsTo-r.setsFrom+1) {
		x.Sets = append(x.Sets, d.texts(0, 16, false))
	}
	return x
}

// P1304: bodies by chance, right ones, with a number changed, and their bytes changed.
func TestP1304ByChance(t *testing.T) {
	d := dice{rand.New(rand.NewSource(13))}
	for i := range 3000 {
		x := d.body()
		what := fmt.Sprintf("body %d, of kind %d", i, x.Kind)
		right(t, what, x)
		b := formOf(x)
		for range 5 {
			changed := bytes.Clone(b)
			at := d.Intn(min(len(b), 80))
			changed[at] ^= 1 << d.Intn(8)
			lawful(t, fmt.Sprintf("%s: changed at %d", what, at), changed)
		}
		y := copyOf(x)
		switch d.Intn(4) {
		case 0:
			y.View = d.number()
		case 1:
			y.Seq = d.number()
		case 2:
			y.Kind = d.Intn(17) - 1
		case 3:
			if len(y.Cert) > 0 {
				y.Cert[d.Intn(len(y.Cert))].From = d.number()
			}
		}
		judged(t, what+", changed", y)
		is(t, what+": Same", message.Same(x, y), string(wholly(x)) == string(wholly(y)))
	}
}

// P1304: bodies that are not the same have bytes that are not.
func TestP1304BytesApart(t *testing.T) {
	forms := map[string]body{}
	for _, n := range slices.Concat(rightBodies(), longBodies()) {
		b := string(bytesOf(t, n.name, n.x))
		if x, has := forms[b]; has {
			is(t, n.name+" and another one", message.Same(x, n.x), true)
		}
		forms[b] = n.x
	}
}

// P1304: what a call answers hangs on what it is given alone: each once more, in another order.
func TestP1304Again(t *testing.T) {
	all := rightBodies()
	var first []string
	for _, n := range all {
		first = append(first, string(bytesOf(t, n.name, n.x)))
	}
	for i := len(all) - 1; i >= 0; i-- {
		is(t, all[i].name, string(bytesOf(t, all[i].name, all[i].x)), first[i])
		x, kind := message.Read([]byte(first[i]))
		is(t, all[i].name, kind, api.OK)
		is(t, all[i].name, message.Same(x, all[i].x), true)
	}
}
