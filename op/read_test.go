package op_test

import (
	"bytes"
	"fmt"
	"slices"
	"testing"

	"bulwark/api"
	"bulwark/op"
)

// isRead: the bytes are read as this operation, and as one in a request.
func isRead(t *testing.T, what string, b []byte, want api.Op) {
	t.Helper()
	o, kind := op.Read(b)
	is(t, what+": kind", kind, api.OK)
	sameOp(t, what, o, want)
	q, kind := op.ReadRequest(join([]byte{172, 2, 5}, b))
	is(t, what+" requested: kind", kind, api.OK)
	sameRequest(t, what+" requested", q, api.Request{Client: 300, Stamp: 5, O: want})
}

// isNone: the bytes are no operation's, by this kind, nor in a request, and all else is zero.
func isNone(t *testing.T, what string, b []byte, want api.Kind) {
	t.Helper()
	o, kind := op.Read(b)
	is(t, what, kind, want)
	sameOp(t, what+": all else", o, api.Op{})
	isNoRequest(t, what+" requested", join([]byte{172, 2, 5}, b), want)
}

func isNoRequest(t *testing.T, what string, b []byte, want api.Kind) {
	t.Helper()
	q, kind := op.ReadRequest(b)
	is(t, what, kind, want)
	sameRequest(t, what+": all else", q, api.Request{})
}

func isNoResult(t *testing.T, what string, b []byte, want api.Kind) {
	t.Helper()
	r, kind := op.ReadResult(b)
	is(t, what, kind, want)
	sameResult(t, what+": all else", r, api.Result{})
}

func TestP603Example(t *testing.T) {
	isRead(t, "the example", []byte{7, 1, 97, 1, 98, 0, 0, 0, 0, 0, 0, 0}, api.Op{Kind: api.Get, K: api.Key{Row: "a", Family: "b"}})
}

func TestP603Read(t *testing.T) {
	for _, x := range rightOps() {
		isRead(t, x.name, formOf(x.o), x.o)
	}
	for _, r := range rightResults() {
		got, kind := op.ReadResult(formOfResult(r))
		is(t, "kind of a result", kind, api.OK)
		sameResult(t, "ReadResult", got, r)
	}
	q := api.Request{Client: lastTime, Stamp: lastTime, O: put("r", "v")}
	got, kind := op.ReadRequest(formOfRequest(q))
	is(t, "kind of a request", kind, api.OK)
	sameRequest(t, "ReadRequest", got, q)
}

// P603: bytes that end too soon, anywhere, are Short; bytes that go on are BadForm, whatever they go on with.
func TestP603CutOffAndGoOn(t *testing.T) {
	for _, x := range append(rightOps(), wrongOps()...) {
		b := formOf(x.o)
		for size := range b {
			isNone(t, x.name+", cut off", b[:size], api.Short)
		}
		isNone(t, x.name+", twice", join(b, b), api.BadForm)
		for _, more := range []byte{0, 1, 2, 128, 255} {
			isNone(t, x.name+", one more", join(b, []byte{more}), api.BadForm)
		}
	}
	for _, r := range rightResults() {
		b := formOfResult(r)
		for size := range b {
			isNoResult(t, "cut off", b[:size], api.Short)
		}
		isNoResult(t, "twice", join(b, b), api.BadForm)
		for _, more := range []byte{0, 1, 2, 128, 255} {
			isNoResult(t, "one more", join(b, []byte{more}), api.BadForm)
		}
	}
	isNoRequest(t, "nothing", nil, api.Short)
	isNoRequest(t, "a client alone", []byte{1}, api.Short)
	isNoRequest(t, "a client that is cut off", []byte{128}, api.Short)
	isNoRequest(t, "a client and a stamp", []byte{1, 1}, api.Short)
	isNoRequest(t, "a stamp that is cut off", []byte{1, 128}, api.Short)
	isNone(t, "nothing", nil, api.Short)
	isNoResult(t, "nothing", []byte{}, api.Short)
}

// P603: what can be read but is not right is told behind all else.
func TestP603NotRight(t *testing.T) {
	for _, x := range wrongOps() {
		isNone(t, x.name, formOf(x.o), api.BadOp)
		isNone(t, x.name+", and more", append(formOf(x.o), 0), api.BadForm)
		for _, n := range [][2]uint64{{0, 1}, {1, 0}, {0, 0}, {0, lastTime}, {lastTime, 0}} {
			b := formOfRequest(api.Request{Client: n[0], Stamp: n[1], O: x.o})
			isNoRequest(t, x.name+" of nobody", b, api.BadArg)
			isNoRequest(t, x.name+" of nobody, and more", append(b, 9), api.BadForm)
			b = formOfRequest(api.Request{Client: n[0], Stamp: n[1], O: put("r", "v")})
			isNoRequest(t, "a right one of nobody", b, api.BadArg)
			isNoRequest(t, "a right one of nobody, cut off", b[:len(b)-1], api.Short)
		}
	}
	for kind := range 101 {
		o := api.Op{Kind: kind, K: key("", "f", "", 0)}
		isNone(t, "a family alone", formOf(o), api.BadOp)
	}
	for e := 19; e <= 100; e++ {
		isNoResult(t, "an E of none", formOfResult(api.Result{E: api.Kind(e)}), api.BadArg)
		isNoResult(t, "an E of none, and more", append(formOfResult(api.Result{E: api.Kind(e)}), 0), api.BadForm)
	}
	for _, k := range []api.Key{{}, key("", "f", "q", 1), key("r", "", "q", 1)} {
		b := formOfResult(api.Result{Cells: []api.Cell{{K: key("r", "f", "", 0)}, {K: k}}})
		isNoResult(t, "a key of none", b, api.BadArg)
		isNoResult(t, "a key of none, and more", append(b, 0), api.BadForm)
		isNoResult(t, "a key of none, cut off", b[:len(b)-1], api.Short)
	}
}

// P603: what is too large is told, whether what it speaks of is there or not.
func TestP603TooLarge(t *testing.T) {
	for _, n := range []uint64{101, 102, 127, 128, 256 + 7, 1<<32 + 7, 1 << 63, lastTime} {
		isNone(t, "a Kind", join(number(n), []byte{1, 97, 1, 98, 0, 0, 0, 0, 0, 0, 0}), api.TooLarge)
		isNone(t, "a Kind alone", number(n), api.TooLarge)
		isNoResult(t, "an E", join(number(n), []byte{0, 0}), api.TooLarge)
		isNoResult(t, "an E alone", number(n), api.TooLarge)
	}
	for _, size := range []int{33, 34, 127, 128, 256} {
		name := long(size)
		isNone(t, "a row", formOf(api.Op{Kind: api.Put, K: key(name, "f", "q", 1)}), api.TooLarge)
		isNone(t, "a family", formOf(api.Op{Kind: api.Put, K: key("r", name, "q", 1)}), api.TooLarge)
		isNone(t, "a qual", formOf(api.Op{Kind: api.Put, K: key("r", "f", name, 1)}), api.TooLarge)
		isNone(t, "a To", formOf(api.Op{Kind: api.Scan, To: name}), api.TooLarge)
		isNone(t, "a row alone", join([]byte{1}, number(uint64(size))), api.TooLarge)
		isNone(t, "a part's row", formOf(batch("r", put(name, "v"))), api.TooLarge)
	}
	for _, size := range []int{257, 258, 300, 65536} {
		isNone(t, "a Value", formOf(api.Op{Kind: api.Put, K: key("r", "f", "q", 1), Value: value(size)}), api.TooLarge)
		isNone(t, "a Want", formOf(api.Op{Kind: api.CheckPut, K: key("r", "f", "q", 1), Has: true, Want: value(size)}), api.TooLarge)
		isNone(t, "a part's Value", formOf(batch("r", put("r", string(value(size))))), api.TooLarge)
		isNone(t, "a Want without Has", formOf(api.Op{Kind: api.CheckPut, K: key("r", "f", "q", 1), Want: value(size)}), api.TooLarge)
	}
	for name, r := range wrongResults() {
		_, kind := op.ReadResult(formOfResult(r))
		if kind != api.TooLarge && kind != api.BadArg {
			t.Errorf("%s: %d", name, kind)
		}
	}
	for _, name := range []string{"E 101", "E -1", "17 cells", "1000 cells", "a long row", "a long family", "a long qual", "a long Value", "the last is long"} {
		isNoResult(t, name, formOfResult(wrongResults()[name]), api.TooLarge)
	}
}

// P603: how many parts and cells there may be; parts have none.
func TestP603TooMany(t *testing.T) {
	isRead(t, "8 parts", formOf(batch("r", many(8, put("r", "v"))...)), batch("r", many(8, put("r", "v"))...))
	for _, size := range []int{9, 10, 128} {
		o := batch("r", many(size, put("r", "v"))...)
		b := formOf(o)
		isNone(t, "too many parts", b, api.TooLarge)
		o.Sub = nil
		b = formOf(o)
		isNone(t, "too many parts that are not there", join(b[:len(b)-1], number(uint64(size))), api.TooLarge)
		isNone(t, "too many parts of a Put", formOf(api.Op{Kind: api.Put, K: key("r", "f", "", 0), Sub: many(size, put("r", "v"))}), api.TooLarge)
	}
	for _, levels := range []int{2, 3, 100} {
		isNone(t, "batches in batches", formOf(deep(levels)), api.TooLarge)
	}
	part := put("r", "v")
	part.Sub = many(1, put("r", "v"))
	isNone(t, "a Put's part in a part", formOf(batch("r", put("r", "v"), part)), api.TooLarge)
	none := formOf(batch("r", api.Op{Kind: api.DelRow, K: api.Key{Row: "r"}}))
	isNone(t, "a part's part that is not there", join(none[:len(none)-1], []byte{1}), api.TooLarge)
	isNone(t, "a batch without parts in a batch", formOf(batch("r", batch("r"))), api.BadOp)

	c := api.Cell{K: key("r", "f", "q", 1), Value: []byte("v")}
	got, kind := op.ReadResult(formOfResult(api.Result{Cells: slices.Repeat([]api.Cell{c}, 16)}))
	is(t, "kind of 16 cells", kind, api.OK)
	is(t, "16 cells", len(got.Cells), 16)
	isNoResult(t, "17 cells that are not there", []byte{0, 17}, api.TooLarge)
}

func TestP603Truths(t *testing.T) {
	ofPut := formOf(put("r", "v"))
	ofBatch := formOf(batch("r", put("r", "v")))
	ofResult := formOfResult(api.Result{Cells: []api.Cell{{K: key("r", "f", "", 0)}}})
	set := func(b []byte, fromEnd, x int) []byte {
		out := bytes.Clone(b)
		out[len(out)-fromEnd] = byte(x)
		return out
	}
	for x := 2; x < 256; x++ {
		isNone(t, "Has", set(ofPut, 2, x), api.BadForm)
		isNone(t, "a part's Has", set(ofBatch, 2, x), api.BadForm)
		isNone(t, "Has of a batch", set(ofBatch, 2+len(ofPut), x), api.BadForm)
		isNoResult(t, "More", set(ofResult, 1, x), api.BadForm)
		isNoResult(t, "Gone", set(ofResult, 2, x), api.BadForm)
	}
	isNone(t, "a Put's Has", set(ofPut, 2, 1), api.BadOp)
}

// piece: of a form, and what it can be in its place so that the reader fails there, by kinds.
type piece struct {
	name  string
	right []byte
	wrong map[api.Kind][]byte
}

func codePiece(name string, n uint64) piece {
	return piece{name, number(n), map[api.Kind][]byte{api.TooLarge: {101}, api.BadForm: {128 + 7, 0}}}
}

func numberPiece(name string, n uint64) piece {
	return piece{name, number(n), map[api.Kind][]byte{api.BadForm: {129, 0}}}
}

func textPiece(name, x string, most int) piece {
	return piece{name, text(x), map[api.Kind][]byte{api.TooLarge: number(uint64(most + 1)), api.BadForm: {129, 0}}}
}

func truthPiece(name string, is bool) piece {
	return piece{name, truth(is), map[api.Kind][]byte{api.BadForm: {2}}}
}

func countPiece(name string, n, most uint64) piece {
	return piece{name, number(n), map[api.Kind][]byte{api.TooLarge: number(most + 1), api.BadForm: {129, 0}}}
}

func opPieces(o api.Op, most uint64) []piece {
	out := []piece{
		codePiece("Kind", uint64(o.Kind)), textPiece("Row", o.K.Row, 32), textPiece("Family", o.K.Family, 32), textPiece("Qual", o.K.Qual, 32),
		numberPiece("Time", o.K.Time), textPiece("To", o.To, 32), textPiece("Value", string(o.Value), 256), textPiece("Want", string(o.Want), 256),
		truthPiece("Has", o.Has), countPiece("how many Sub", uint64(len(o.Sub)), most),
	}
	for _, part := range o.Sub {
		out = append(out, opPieces(part, 0)...)
	}
	return out
}

func resultPieces(r api.Result) []piece {
	out := []piece{codePiece("E", uint64(r.E)), countPiece("how many cells", uint64(len(r.Cells)), 16)}
	for _, c := range r.Cells {
		out = append(out, textPiece("Row", c.K.Row, 32), textPiece("Family", c.K.Family, 32), textPiece("Qual", c.K.Qual, 32),
			numberPiece("Time", c.K.Time), textPiece("Value", string(c.Value), 256), truthPiece("Gone", c.Gone))
	}
	return append(out, truthPiece("More", r.More))
}

// firstFault: with a fault at one piece that one is told, whatever is wrong behind it, or whether there is anything behind it.
func firstFault(t *testing.T, pieces []piece, kindOf func(b []byte) api.Kind) {
	t.Helper()
	for i, first := range pieces {
		var ahead []byte
		for _, p := range pieces[:i] {
			ahead = append(ahead, p.right...)
		}
		for want, form := range first.wrong {
			what := fmt.Sprintf("%d: %s", i, first.name)
			is(t, what+", cut off", kindOf(join(ahead, form)), want)
			behind := join(ahead, form)
			for j, p := range pieces[i+1:] {
				for _, second := range p.wrong {
					is(t, fmt.Sprint(what, ", then ", j, ": ", p.name), kindOf(join(behind, second, []byte{0})), want)
				}
				behind = append(behind, p.right...)
				is(t, what+", then as it was", kindOf(behind), want)
			}
			is(t, what+", and more", kindOf(append(behind, 7)), want)
		}
	}
}

func TestP603FirstFaultIsTold(t *testing.T) {
	ofOp := func(b []byte) api.Kind { _, k := op.Read(b); return k }
	ofRequest := func(b []byte) api.Kind { _, k := op.ReadRequest(b); return k }
	ofResult := func(b []byte) api.Kind { _, k := op.ReadResult(b); return k }
	check := api.Op{Kind: api.CheckPut, K: key("r", "f", "q", 3), Value: []byte("v"), Has: true, Want: []byte("w")}
	for _, o := range []api.Op{check, batch("r", put("r", "v"), put("r", "w")), {Kind: 99, To: "z", Want: []byte("w")}, batch("", put("s", "v"))} {
		pieces := opPieces(o, 8)
		firstFault(t, pieces, ofOp)
		for _, n := range []uint64{0, 1, 300} {
			of := []piece{numberPiece("Client", n), numberPiece("Stamp", 300-n)}
			firstFault(t, append(of, pieces...), ofRequest)
		}
	}
	c := api.Cell{K: key("r", "f", "q", 3), Value: []byte("v")}
	for _, r := range []api.Result{{}, {E: 99, Cells: make([]api.Cell, 1)}, {Cells: []api.Cell{c, c}, More: true}} {
		firstFault(t, resultPieces(r), ofResult)
	}
}

// P603 with rule 4: bytes stay as they were, and what was read has none of them, nor two lists of it any in common.
func TestP603NewMemory(t *testing.T) {
	want := api.Op{Kind: api.CheckPut, K: key("r", "f", "q", 3), Value: []byte("value"), Has: true, Want: []byte("want")}
	b := roomy(formOf(want))
	before := bytes.Clone(b[:cap(b)])
	o, _ := op.Read(b)
	spoil(o.Value)
	same(t, "Want", o.Want, want.Want)
	spoil(o.Want)
	same(t, "handed in", b[:cap(b)], before)
	o, _ = op.Read(b)
	spoil(b)
	sameOp(t, "Read", o, want)

	two := batch("r", put("r", "one"), put("r", "two"))
	b = roomy(formOfRequest(api.Request{Client: 1, Stamp: 1, O: two}))
	q, _ := op.ReadRequest(b)
	again, _ := op.ReadRequest(b)
	spoil(b)
	spoil(q.O.Sub[0].Value)
	same(t, "the other part", q.O.Sub[1].Value, []byte("two"))
	q.O.Sub[1] = api.Op{}
	sameOp(t, "read again", again.O, two)

	r := api.Result{Cells: []api.Cell{{K: key("r", "f", "", 0), Value: []byte("one")}, {K: key("r", "g", "", 0), Value: []byte("two")}}}
	b = roomy(formOfResult(r))
	got, _ := op.ReadResult(b)
	spoil(b)
	sameResult(t, "ReadResult", got, r)
	spoil(got.Cells[0].Value)
	same(t, "the other cell", got.Cells[1].Value, []byte("two"))
}
