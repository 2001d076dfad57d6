package message_test

import (
	"bytes"
	"fmt"
	"slices"
	"testing"

	"bulwark/api"
	"bulwark/message"
)

// bytesOf: of a body that must be right.
func bytesOf(t *testing.T, what string, x body) []byte {
	t.Helper()
	b, kind := message.Bytes(x)
	if kind != api.OK {
		t.Fatalf("Bytes of %s: %d", what, kind)
	}
	return b
}

// written: a body of each kind, and its bytes, by hand.
type written struct {
	x body
	b []byte
}

func byHand() map[string]written {
	sum := bytes.Repeat([]byte{9}, 32)
	tag := bytes.Repeat([]byte{8}, 32)
	text := func(from uint64, b string) signed { return signed{From: from, B: []byte(b), Tag: tag} }
	get := issued(101, 1, api.Op{Kind: api.Get, K: key("a", "b", "", 0)})
	getForm := []byte{101, 1, 7, 1, 97, 1, 98, 0, 0, 0, 0, 0, 0, 0}
	result := api.Result{E: api.Missing, Cells: []api.Cell{{K: key("a", "b", "", 5), Value: []byte("v"), Gone: true}}, More: true}
	resultForm := []byte("\x07\x01\x01a\x01b\x00\x05\x01v\x01\x01")
	return map[string]written{
		"request":     {body{Kind: 1, Reqs: []api.Request{get}}, join([]byte{1, 0, 0, 0, 1, 14}, getForm, []byte{0, 0})},
		"pre-prepare": {body{Kind: 2, View: 300, Seq: 127, Sum: sum}, join([]byte{2, 172, 2, 127, 32}, sum, []byte{0, 0, 0})},
		"prepare":     {body{Kind: 3, View: 0, Seq: 128, Sum: sum}, join([]byte{3, 0, 128, 1, 32}, sum, []byte{0, 0, 0})},
		"commit":      {body{Kind: 4, View: 1, Seq: 2, Sum: sum}, join([]byte{4, 1, 2, 32}, sum, []byte{0, 0, 0})},
		"reply":       {body{Kind: 5, Reply: answered(101, 300, 6, result)}, join([]byte{5, 0, 0, 0, 0, 101, 172, 2, 6, 12}, resultForm, []byte{0, 0})},
		"zero reply":  {body{Kind: 5, Reply: answered(1, 2, 0, api.Result{})}, []byte{5, 0, 0, 0, 0, 1, 2, 0, 3, 0, 0, 0, 0, 0}},
		"checkpoint":  {body{Kind: 6, Seq: 8, Sum: sum}, join([]byte{6, 0, 8, 32}, sum, []byte{0, 0, 0})},
		"view change": {body{Kind: 7, View: 1, Seq: 4, Cert: []signed{text(3, "ab")}, Sets: [][]signed{{text(1, ""), text(300, "c")}, nil}},
			join([]byte{7, 1, 4, 0, 0, 1, 3, 2, 97, 98, 32}, tag, []byte{2, 2, 1, 0, 32}, tag, []byte{172, 2, 1, 99, 32}, tag, []byte{0})},
		"empty view change": {body{Kind: 7}, []byte{7, 0, 0, 0, 0, 0, 0}},
		"new view": {body{Kind: 8, View: 2, Cert: []signed{text(1, "a"), text(2, "b")}, Sets: [][]signed{{text(4, "c")}}},
			join([]byte{8, 2, 0, 0, 0, 2, 1, 1, 97, 32}, tag, []byte{2, 1, 98, 32}, tag, []byte{1, 1, 4, 1, 99, 32}, tag)},
		"empty new view": {body{Kind: 8, View: 2, Sets: [][]signed{{}}}, []byte{8, 2, 0, 0, 0, 0, 1, 0}},
		"fetch":          {body{Kind: 9, Seq: 3}, []byte{9, 0, 3, 0, 0, 0, 0}},
		"state":          {body{Kind: 10, Seq: 4, Sum: sum, Cert: []signed{{B: []byte("abc")}}}, join([]byte{10, 0, 4, 32}, sum, []byte{0, 1, 0, 3, 97, 98, 99, 0, 0})},
		"need":           {body{Kind: 11, Sum: sum}, join([]byte{11, 0, 0, 32}, sum, []byte{0, 0, 0})},
		"batch":          {body{Kind: 12, Cert: []signed{text(101, "q")}}, join([]byte{12, 0, 0, 0, 0, 1, 101, 1, 113, 32}, tag, []byte{0})},
		"empty batch":    {body{Kind: 12}, []byte{12, 0, 0, 0, 0, 0, 0}},
		"ask":            {body{Kind: 13, Reqs: []api.Request{get}}, join([]byte{13, 0, 0, 0, 1, 14}, getForm, []byte{0, 0})},
		"shown":          {body{Kind: 14, Seq: 4, Cert: []signed{{B: []byte("a")}, {}, {B: []byte("bc")}}}, []byte{14, 0, 4, 0, 0, 3, 0, 1, 97, 0, 0, 0, 0, 0, 2, 98, 99, 0, 0}},
		"a great commit": {body{Kind: 4, View: most, Seq: most, Sum: sum}, join([]byte{4, 255, 255, 255, 255, 255, 255, 255, 255, 63, 255, 255, 255, 255, 255, 255, 255, 255, 63, 32}, sum, []byte{0, 0, 0})},
	}
}

// P1302: the chapter's example, and every other kind, written out.
func TestP1302WrittenOut(t *testing.T) {
	for name, w := range byHand() {
		same(t, name, bytesOf(t, name, w.x), w.b)
		read(t, name, w.b, w.x)
		same(t, name+": the form", formOf(w.x), w.b)
	}
}

func TestP1302BytesOfRight(t *testing.T) {
	for _, n := range slices.Concat(rightBodies(), longBodies()) {
		want := formOf(n.x)
		same(t, n.name, bytesOf(t, n.name, n.x), want)
		same(t, n.name+", lists that are not nil", bytesOf(t, n.name, copyOf(n.x)), want)
		same(t, n.name+", lists that are nil", bytesOf(t, n.name, bare(n.x)), want)
	}
}

func TestP1302BytesOfWrong(t *testing.T) {
	for _, n := range plainBodies() {
		for _, c := range changes() {
			x := n.x
			c.make(&x)
			if meant(x) {
				continue
			}
			b, kind := message.Bytes(x)
			is(t, n.name+", "+c.name, kind, api.BadForm)
			is(t, n.name+", "+c.name+": bytes", len(b), 0)
		}
	}
	for name, q := range wrongRequests() {
		_, kind := message.Bytes(body{Kind: aRequest, Reqs: []api.Request{q}})
		is(t, name, kind, api.BadForm)
	}
	for name, r := range wrongResults() {
		_, kind := message.Bytes(body{Kind: aReply, Reply: answered(1, 1, 0, r)})
		is(t, name, kind, api.BadForm)
	}
}

// P1302: the greatest body there is has bytes, and they are read: no limit of all bytes is named.
func TestP1302BytesOfTheGreatest(t *testing.T) {
	set := slices.Repeat([]signed{said(greatest, 16384)}, 16)
	x := body{Kind: aViewChange, View: most, Seq: most, Cert: set, Sets: slices.Repeat([][]signed{set}, 16)}
	b := bytesOf(t, "the greatest", x)
	is(t, "more than MaxBytes", len(b) > api.MaxBytes, true)
	same(t, "the greatest", b, formOf(x))
	read(t, "the greatest", b, x)
}

// P1302: what is handed in stays as it is, spare room too, and what is handed out is new memory.
func TestP1302BytesMemory(t *testing.T) {
	for _, n := range rightBodies() {
		x := copyOf(n.x)
		before := seen(x)
		b := bytesOf(t, n.name, x)
		is(t, n.name+": handed in", seen(x), before)
		want := bytes.Clone(b)
		spoilBytes(b)
		is(t, n.name+": behind a change of what was told", seen(x), before)
		same(t, n.name+": told again", bytesOf(t, n.name, x), want)
		b = bytesOf(t, n.name, x)
		spoil(&x)
		same(t, n.name+": behind a change of what was handed in", b, want)
	}
}

// P1302: the numbers' sizes, each of the numbers at each length of its form.
func TestP1302BytesNumbers(t *testing.T) {
	for bit := range 64 {
		for _, n := range []uint64{1 << bit, 1<<bit - 1} {
			what := fmt.Sprint(n)
			judged(t, "View "+what, body{Kind: aPrepare, View: n, Sum: fill(32)})
			judged(t, "Seq "+what, body{Kind: aFetch, Seq: n})
			judged(t, "From "+what, body{Kind: aBatch, Cert: []signed{said(n, 3)}})
			judged(t, "Client "+what, body{Kind: aReply, Reply: answered(n, 1, 0, api.Result{})})
			judged(t, "Stamp "+what, body{Kind: aReply, Reply: answered(1, n, 0, api.Result{})})
			judged(t, "a reply's View "+what, body{Kind: aReply, Reply: answered(1, 1, n, api.Result{})})
		}
	}
}
