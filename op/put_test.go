package op_test

import (
	"slices"
	"testing"

	"bulwark/api"
	"bulwark/op"
)

func TestP602Example(t *testing.T) {
	o := api.Op{Kind: api.Get, K: api.Key{Row: "a", Family: "b"}}
	same(t, "Bytes", bytesOf(t, "the example", o), []byte{7, 1, 97, 1, 98, 0, 0, 0, 0, 0, 0, 0})
}

// P602: the bytes as the chapter tells them, written out.
func TestP602Bytes(t *testing.T) {
	cases := []struct {
		o    api.Op
		want []byte
	}{
		{api.Op{Kind: api.Put, K: key("r", "f", "q", 300), Value: []byte("v")}, []byte{1, 1, 'r', 1, 'f', 1, 'q', 172, 2, 0, 1, 'v', 0, 0, 0}},
		{api.Op{Kind: api.DelCell, K: key("r", "f", "", 1)}, []byte{2, 1, 'r', 1, 'f', 0, 1, 0, 0, 0, 0, 0}},
		{api.Op{Kind: api.DelColumn, K: key("r", "f", "q", 0)}, []byte{3, 1, 'r', 1, 'f', 1, 'q', 0, 0, 0, 0, 0, 0}},
		{api.Op{Kind: api.DelRow, K: api.Key{Row: "rr"}}, []byte{4, 2, 'r', 'r', 0, 0, 0, 0, 0, 0, 0, 0}},
		{api.Op{Kind: api.CheckPut, K: key("r", "f", "q", 2), Value: []byte("v"), Want: []byte("ww"), Has: true}, []byte{5, 1, 'r', 1, 'f', 1, 'q', 2, 0, 1, 'v', 2, 'w', 'w', 1, 0}},
		{api.Op{Kind: api.Scan}, []byte{8, 0, 0, 0, 0, 0, 0, 0, 0, 0}},
		{api.Op{Kind: api.Scan, K: api.Key{Row: "a"}, To: "b"}, []byte{8, 1, 'a', 0, 0, 0, 1, 'b', 0, 0, 0, 0}},
		{batch("r", api.Op{Kind: api.DelRow, K: api.Key{Row: "r"}}, api.Op{Kind: api.DelCell, K: key("r", "f", "", 9)}), []byte{
			6, 1, 'r', 0, 0, 0, 0, 0, 0, 0, 2,
			4, 1, 'r', 0, 0, 0, 0, 0, 0, 0, 0,
			2, 1, 'r', 1, 'f', 0, 9, 0, 0, 0, 0, 0}},
	}
	for _, c := range cases {
		same(t, "Bytes", bytesOf(t, "a right one", c.o), c.want)
		q, kind := op.Request(api.Request{Client: 300, Stamp: 5, O: c.o})
		is(t, "kind of a request", kind, api.OK)
		same(t, "Request", q, append([]byte{172, 2, 5}, c.want...))
	}
}

func TestP602AsTold(t *testing.T) {
	for _, x := range rightOps() {
		same(t, x.name, bytesOf(t, x.name, x.o), formOf(x.o))
		same(t, x.name+", other empty lists", bytesOf(t, x.name, copyOf(x.o)), formOf(x.o))
		for _, n := range []uint64{1, 127, 128, lastTime} {
			q := api.Request{Client: n, Stamp: lastTime - n + 1, O: x.o}
			b, kind := op.Request(q)
			is(t, "kind of a request", kind, api.OK)
			same(t, x.name+" requested", b, formOfRequest(q))
		}
	}
}

func TestP602WrongOps(t *testing.T) {
	wrong := append(wrongOps(),
		named{"Kind -1", api.Op{Kind: -1, K: key("r", "f", "q", 1)}},
		named{"Kind 101", api.Op{Kind: 101, K: key("r", "f", "q", 1)}},
		named{"a long row", api.Op{Kind: api.DelRow, K: api.Key{Row: long(33)}}},
		named{"a long Value", api.Op{Kind: api.Put, K: key("r", "f", "q", 1), Value: value(257)}},
		named{"too many", batch("r", many(9, put("r", "v"))...)},
		named{"a batch in a batch", deep(2)})
	for _, x := range wrong {
		b, kind := op.Bytes(x.o)
		is(t, x.name, kind, api.BadOp)
		is(t, x.name+": bytes", len(b), 0)
		b, kind = op.Request(api.Request{Client: 1, Stamp: 1, O: x.o})
		is(t, x.name+" requested", kind, api.BadOp)
		is(t, x.name+" requested: bytes", len(b), 0)
	}
}

// P602: of a request BadArg is first.
func TestP602WrongRequests(t *testing.T) {
	for _, x := range append(rightOps(), wrongOps()...) {
		for _, n := range [][2]uint64{{0, 1}, {1, 0}, {0, 0}, {0, lastTime}, {lastTime, 0}} {
			b, kind := op.Request(api.Request{Client: n[0], Stamp: n[1], O: x.o})
			is(t, x.name, kind, api.BadArg)
			is(t, x.name+": bytes", len(b), 0)
		}
	}
}

// P602: a result's bytes, written out.
func TestP602Result(t *testing.T) {
	cases := []struct {
		r    api.Result
		want []byte
	}{
		{api.Result{}, []byte{0, 0, 0}},
		{api.Result{E: api.Refused}, []byte{18, 0, 0}},
		{api.Result{More: true}, []byte{0, 0, 1}},
		{api.Result{Cells: []api.Cell{{K: key("r", "f", "q", 300), Value: []byte("vv")}}}, []byte{0, 1, 1, 'r', 1, 'f', 1, 'q', 172, 2, 2, 'v', 'v', 0, 0}},
		{api.Result{E: api.Stale, More: true, Cells: []api.Cell{{K: key("r", "f", "", 0), Gone: true}, {K: key("s", "g", "", 1)}}}, []byte{
			16, 2,
			1, 'r', 1, 'f', 0, 0, 0, 1,
			1, 's', 1, 'g', 0, 1, 0, 0,
			1}},
	}
	for _, c := range cases {
		b, kind := op.Result(c.r)
		is(t, "kind", kind, api.OK)
		same(t, "Result", b, c.want)
	}
	for _, r := range rightResults() {
		b, kind := op.Result(r)
		is(t, "kind", kind, api.OK)
		same(t, "Result", b, formOfResult(r))
	}
}

// wrongResults: each with one thing wrong.
func wrongResults() map[string]api.Result {
	c := api.Cell{K: key("r", "f", "q", 1), Value: []byte("v")}
	one := func(k api.Key, size int) api.Result {
		return api.Result{Cells: []api.Cell{c, {K: k, Value: value(size)}, c}}
	}
	return map[string]api.Result{
		"E 19":             {E: 19},
		"E 100":            {E: 100},
		"E 101":            {E: 101},
		"E -1":             {E: -1},
		"17 cells":         {Cells: slices.Repeat([]api.Cell{c}, 17)},
		"1000 cells":       {Cells: slices.Repeat([]api.Cell{c}, 1000)},
		"an empty cell":    {Cells: make([]api.Cell, 1)},
		"no row":           one(key("", "f", "q", 1), 1),
		"no family":        one(key("r", "", "q", 1), 1),
		"a long row":       one(key(long(33), "f", "q", 1), 1),
		"a long family":    one(key("r", long(33), "q", 1), 1),
		"a long qual":      one(key("r", "f", long(33), 1), 1),
		"a long Value":     one(key("r", "f", "q", 1), 257),
		"an E and no key":  {E: api.Full, Cells: make([]api.Cell, 2)},
		"the last is long": {Cells: append(slices.Repeat([]api.Cell{c}, 15), api.Cell{K: c.K, Value: value(257)})},
	}
}

func TestP602WrongResults(t *testing.T) {
	for name, r := range wrongResults() {
		b, kind := op.Result(r)
		is(t, name, kind, api.BadArg)
		is(t, name+": bytes", len(b), 0)
	}
}

// P602 with rule 4: what is handed in stays and is not kept, each answer is memory of its own.
func TestP602NewMemory(t *testing.T) {
	given := roomy([]byte("value"))
	before := slices.Clone(given[:cap(given)])
	part := api.Op{Kind: api.Put, K: key("r", "f", "q", 1), Value: given}
	q := api.Request{Client: 1, Stamp: 2, O: batch("r", part, part)}
	r := api.Result{Cells: []api.Cell{{K: part.K, Value: given}}}
	ofOp, ofRequest, ofResult := formOf(q.O), formOfRequest(q), formOfResult(r)
	for range 2 {
		a, _ := op.Bytes(q.O)
		b, _ := op.Request(q)
		c, _ := op.Result(r)
		same(t, "Bytes", a, ofOp)
		same(t, "Request", b, ofRequest)
		same(t, "Result", c, ofResult)
		spoil(a)
		same(t, "Request behind Bytes", b, ofRequest)
		spoil(b)
		spoil(c)
		same(t, "handed in", given[:cap(given)], before)
	}
	b, _ := op.Request(q)
	c, _ := op.Result(r)
	spoil(given)
	same(t, "Request", b, ofRequest)
	same(t, "Result", c, ofResult)
}
