package op_test

import (
	"bytes"
	"math"
	"slices"
	"strings"
	"testing"

	"bulwark/api"
	"bulwark/op"
)

func TestP601Right(t *testing.T) {
	for _, x := range rightOps() {
		is(t, x.name, op.Right(x.o), api.OK)
		is(t, x.name+", other empty lists", op.Right(copyOf(x.o)), api.OK)
	}
	for _, x := range wrongOps() {
		is(t, x.name, op.Right(x.o), api.BadOp)
		is(t, x.name+", other empty lists", op.Right(copyOf(x.o)), api.BadOp)
	}
}

func TestP601KindOfNone(t *testing.T) {
	for _, x := range rightOps() {
		for _, kind := range []int{0, -1, 9, 10, 100, 101, 256 + api.Put, 1<<32 + api.Put, math.MaxInt, math.MinInt, -api.Put} {
			x.o.Kind = kind
			is(t, x.name+" of no Kind", op.Right(x.o), api.BadOp)
		}
	}
}

// P601: the table, thing by thing: what each Kind may have beside what it must.
func TestP601EachThing(t *testing.T) {
	things := map[string]func(o *api.Op){
		"Family": func(o *api.Op) { o.K.Family = "g" },
		"Qual":   func(o *api.Op) { o.K.Qual = "q" },
		"Time":   func(o *api.Op) { o.K.Time = lastTime },
		"To":     func(o *api.Op) { o.To = "z" },
		"Value":  func(o *api.Op) { o.Value = []byte{0} },
		"Want":   func(o *api.Op) { o.Want = []byte{0} },
		"Has":    func(o *api.Op) { o.Has = true },
		"both":   func(o *api.Op) { o.Has, o.Want = true, []byte("w") },
		"Sub":    func(o *api.Op) { o.Sub = append(slices.Clone(o.Sub), api.Op{Kind: api.DelRow, K: api.Key{Row: "r"}}) },
	}
	may := map[string]string{
		"Put":       "Family Qual Time Value",
		"DelCell":   "Family Qual Time",
		"DelColumn": "Family Qual",
		"Get":       "Family Qual",
		"DelRow":    "",
		"CheckPut":  "Family Qual Time Value Has both",
		"Batch":     "Sub",
		"Scan":      "To",
	}
	for _, x := range plainOps() {
		for name, add := range things {
			o, want := x.o, api.BadOp
			add(&o)
			if slices.Contains(strings.Fields(may[x.name]), name) {
				want = api.OK
			}
			is(t, x.name+" with "+name, op.Right(o), want)
		}
	}
}

// P601: names that are empty, of 32 bytes, and longer, in each part of each Kind that has it.
func TestP601Names(t *testing.T) {
	judge := func(what string, o api.Op, least, size int) {
		t.Helper()
		want := api.OK
		if size < least || size > 32 {
			want = api.BadOp
		}
		is(t, what, op.Right(o), want)
	}
	for _, size := range []int{0, 1, 31, 32, 33, 34, 288, 1 << 16} {
		name := long(size)
		for _, kind := range []int{api.Put, api.DelCell, api.DelColumn, api.CheckPut, api.Get} {
			judge("row", api.Op{Kind: kind, K: key(name, "f", "q", 0)}, 1, size)
			judge("family", api.Op{Kind: kind, K: key("r", name, "q", 0)}, 1, size)
			judge("qual", api.Op{Kind: kind, K: key("r", "f", name, 0)}, 0, size)
		}
		judge("row of DelRow", api.Op{Kind: api.DelRow, K: api.Key{Row: name}}, 1, size)
		judge("row of Batch", batch(name, api.Op{Kind: api.DelRow, K: api.Key{Row: name}}), 1, size)
		judge("row of Scan", api.Op{Kind: api.Scan, K: api.Key{Row: name}}, 0, size)
		judge("row of Scan with To", api.Op{Kind: api.Scan, K: api.Key{Row: name}, To: "z"}, 0, size)
		judge("To of Scan", api.Op{Kind: api.Scan, To: name}, 0, size)
		judge("To of Scan with a row", api.Op{Kind: api.Scan, K: api.Key{Row: "a"}, To: name}, 0, size)
	}
}

func TestP601Values(t *testing.T) {
	k := key("r", "f", "q", 1)
	for size, want := range map[int]api.Kind{0: api.OK, 1: api.OK, 255: api.OK, 256: api.OK, 257: api.BadOp, 512: api.BadOp, 1 << 16: api.BadOp} {
		is(t, "Put", op.Right(api.Op{Kind: api.Put, K: k, Value: value(size)}), want)
		is(t, "CheckPut", op.Right(api.Op{Kind: api.CheckPut, K: k, Value: value(size)}), want)
		is(t, "CheckPut with both", op.Right(api.Op{Kind: api.CheckPut, K: k, Value: value(size), Has: true, Want: value(256)}), want)
		is(t, "Want", op.Right(api.Op{Kind: api.CheckPut, K: k, Value: value(256), Has: true, Want: value(size)}), want)
		is(t, "Batch", op.Right(batch("r", api.Op{Kind: api.Put, K: k, Value: value(size)})), want)
		if size > 0 {
			is(t, "Want without Has", op.Right(api.Op{Kind: api.CheckPut, K: k, Want: value(size)}), api.BadOp)
		}
	}
}

func TestP601Batch(t *testing.T) {
	for size := range 20 {
		want := api.OK
		if size < 1 || size > 8 {
			want = api.BadOp
		}
		is(t, "how many", op.Right(batch("r", many(size, put("r", "v"))...)), want)
	}
	is(t, "how many, by far", op.Right(batch("r", many(10000, put("r", "v"))...)), api.BadOp)
	for _, x := range rightOps() {
		want := api.BadOp
		if x.o.Kind >= api.Put && x.o.Kind <= api.DelRow {
			want = api.OK
		}
		row := x.o.K.Row
		is(t, "of "+x.name, op.Right(batch(row, x.o)), want)
		is(t, "of "+x.name+", first", op.Right(batch(row, x.o, api.Op{Kind: api.DelRow, K: api.Key{Row: row}})), want)
		is(t, "of "+x.name+", last", op.Right(batch(row, append(many(7, api.Op{Kind: api.DelRow, K: api.Key{Row: row}}), x.o)...)), want)
		is(t, "of "+x.name+" of another row", op.Right(batch("other", x.o)), api.BadOp)
	}
	for _, x := range wrongOps() {
		is(t, "of "+x.name, op.Right(batch("r", put("r", "v"), x.o)), api.BadOp)
		is(t, "of "+x.name+", by its row", op.Right(batch(x.o.K.Row, x.o)), api.BadOp)
	}
	part := put("r", "v")
	part.Sub = many(1, put("r", "v"))
	is(t, "of a Put with parts", op.Right(batch("r", part)), api.BadOp)
}

// P601 with rule 1: what is nested is judged by its outside.
func TestP601Deep(t *testing.T) {
	is(t, "Right", op.Right(deep(1<<16)), api.BadOp)
	is(t, "Writes", op.Writes(deep(1<<16)), true)
	is(t, "Same", op.Same(deep(1<<16), deep(1<<16)), true)
	is(t, "Same, one deeper", op.Same(deep(1<<16), deep(1<<16-1)), false)
}

// deep: batches of one part, so many in one another.
func deep(levels int) api.Op {
	o := put("r", "v")
	for range levels {
		o = batch("r", o)
	}
	return o
}

func TestP601Writes(t *testing.T) {
	for _, x := range append(rightOps(), wrongOps()...) {
		want := x.o.Kind != 7 && x.o.Kind != 8
		is(t, x.name, op.Writes(x.o), want)
	}
	for kind, want := range map[int]bool{1: true, 2: true, 3: true, 4: true, 5: true, 6: true, 7: false, 8: false} {
		is(t, "a Kind alone", op.Writes(api.Op{Kind: kind}), want)
		is(t, "with a part", op.Writes(api.Op{Kind: kind, Sub: many(1, put("r", "v"))}), want)
		is(t, "with a question", op.Writes(api.Op{Kind: kind, Sub: many(1, api.Op{Kind: api.Get})}), want)
	}
}

// different: no two of them alike.
func different() []api.Op {
	return []api.Op{
		{}, {Kind: 1}, {Kind: -1}, {Kind: math.MinInt},
		{K: key("a", "", "", 0)}, {K: key("", "a", "", 0)}, {K: key("", "", "a", 0)}, {K: key("", "", "", 1)}, {K: key("a", "a", "a", 1)},
		{To: "a"}, {To: "b"}, {To: long(1000)},
		{Value: []byte("a")}, {Value: []byte("b")}, {Value: []byte("ab")}, {Value: []byte{0}}, {Value: value(1000)},
		{Want: []byte("a")}, {Want: []byte("b")}, {Want: []byte{0}}, {Want: value(999)},
		{Has: true}, {Has: true, Want: []byte("a")}, {Has: true, Value: []byte("a")},
		{Sub: many(1, api.Op{})}, {Sub: many(2, api.Op{})},
		{Sub: []api.Op{{Kind: 1}, {Kind: 2}}}, {Sub: []api.Op{{Kind: 2}, {Kind: 1}}}, {Sub: []api.Op{{Kind: 1}}},
		{Sub: many(1, api.Op{Value: []byte("a")})}, {Sub: many(1, api.Op{Want: []byte("a")})}, {Sub: many(1, api.Op{Has: true})},
		{Sub: many(1, api.Op{Sub: many(1, api.Op{})})}, {Sub: many(1, api.Op{Sub: many(1, api.Op{To: "a"})})},
	}
}

func TestP601Same(t *testing.T) {
	list := different()
	for i, a := range list {
		is(t, "with itself", op.Same(a, a), true)
		for j, b := range list {
			is(t, string(formOf(a))+" and "+string(formOf(b)), op.Same(a, copyOf(b)), i == j)
			is(t, "the other way round", op.Same(copyOf(b), a), i == j)
		}
	}
	for _, x := range rightOps() {
		is(t, x.name, op.Same(x.o, copyOf(x.o)), true)
		is(t, x.name+" and the zero one", op.Same(x.o, api.Op{}), false)
	}
}

// P601 with rule 4: who judges, or puts, changes nothing, spare room neither.
func TestP601HandedInStays(t *testing.T) {
	parts := append(make([]api.Op, 0, 16), many(3, put("r", "v"))...)
	o := api.Op{K: key("r", "f", "q", 5), To: "t", Value: roomy([]byte("value")), Want: roomy([]byte("want")), Has: true, Sub: parts}
	before := copyOf(o)
	for kind := range 10 {
		o.Kind, before.Kind = kind, kind
		op.Right(o)
		op.Writes(o)
		op.Same(o, before)
		op.Bytes(o)
		op.Request(api.Request{Client: 1, Stamp: 1, O: o})
		sameOp(t, "handed in", o, before)
	}
	right := batch("r", parts...)
	bytesOf(t, "a batch", right)
	op.Right(right)
	sameOp(t, "a batch", right, batch("r", many(3, put("r", "v"))...))
	for _, spare := range parts[3:16] {
		sameOp(t, "spare room of Sub", spare, api.Op{})
	}
	for _, b := range [][]byte{o.Value, o.Want} {
		same(t, "spare room", b[len(b):len(b)+64], bytes.Repeat([]byte{77}, 64))
	}
}
