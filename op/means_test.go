package op_test

import (
	"bytes"
	"encoding/binary"
	"slices"
	"strings"
	"testing"

	"bulwark/api"
	"bulwark/op"
)

const lastTime = 1<<64 - 1

func is[T comparable](t *testing.T, what string, got, want T) {
	t.Helper()
	if got != want {
		t.Errorf("%s: %#v, not %#v", what, got, want)
	}
}

func same(t *testing.T, what string, got, want []byte) {
	t.Helper()
	if !bytes.Equal(got, want) {
		t.Errorf("%s: %v, not %v", what, got, want)
	}
}

func key(row, family, qual string, time uint64) api.Key {
	return api.Key{Row: row, Family: family, Qual: qual, Time: time}
}

func long(size int) string {
	return strings.Repeat("n", size)
}

func value(size int) []byte {
	return bytes.Repeat([]byte{200}, size)
}

// join: parts of a form that is written out.
func join(parts ...[]byte) []byte {
	return slices.Concat(parts...)
}

// number, text, truth: forms of layer 1, by the library's means alone.
func number(n uint64) []byte {
	return binary.AppendUvarint(nil, n)
}

func text[T string | []byte](x T) []byte {
	return append(number(uint64(len(x))), x...)
}

func truth(is bool) []byte {
	if is {
		return []byte{1}
	}
	return []byte{0}
}

func formOfKey(k api.Key) []byte {
	return join(text(k.Row), text(k.Family), text(k.Qual), number(k.Time))
}

// formOf: the bytes as the chapter tells them, of any operation, right or not.
func formOf(o api.Op) []byte {
	form := join(number(uint64(o.Kind)), formOfKey(o.K), text(o.To), text(o.Value), text(o.Want), truth(o.Has), number(uint64(len(o.Sub))))
	for _, part := range o.Sub {
		form = append(form, formOf(part)...)
	}
	return form
}

func formOfRequest(q api.Request) []byte {
	return join(number(q.Client), number(q.Stamp), formOf(q.O))
}

func formOfResult(r api.Result) []byte {
	form := join(number(uint64(r.E)), number(uint64(len(r.Cells))))
	for _, c := range r.Cells {
		form = join(form, formOfKey(c.K), text(c.Value), truth(c.Gone))
	}
	return append(form, truth(r.More)...)
}

// The three hold what was read against what was meant by all that there is in it.
func sameOp(t *testing.T, what string, got, want api.Op) {
	t.Helper()
	same(t, what, formOf(got), formOf(want))
}

func sameRequest(t *testing.T, what string, got, want api.Request) {
	t.Helper()
	same(t, what, formOfRequest(got), formOfRequest(want))
}

func sameResult(t *testing.T, what string, got, want api.Result) {
	t.Helper()
	same(t, what, formOfResult(got), formOfResult(want))
}

// roomy: these bytes, with room behind them that must stay as it is.
func roomy(b []byte) []byte {
	whole := append(bytes.Clone(b), bytes.Repeat([]byte{77}, 64)...)
	return whole[:len(b)]
}

// spoil: all of it, its spare room too.
func spoil(b []byte) {
	b = b[:cap(b)]
	for i := range b {
		b[i] = 99
	}
}

// copyOf: memory of its own, nil lists as empty ones and empty ones as nil.
func copyOf(o api.Op) api.Op {
	flip := func(b []byte) []byte {
		if b == nil {
			return []byte{}
		}
		return append([]byte(nil), b...)
	}
	o.Value, o.Want = flip(o.Value), flip(o.Want)
	parts := make([]api.Op, 0, len(o.Sub)+1)
	for _, part := range o.Sub {
		parts = append(parts, copyOf(part))
	}
	o.Sub = parts
	return o
}

func batch(row string, parts ...api.Op) api.Op {
	return api.Op{Kind: api.Batch, K: api.Key{Row: row}, Sub: parts}
}

func put(row, text string) api.Op {
	return api.Op{Kind: api.Put, K: key(row, "f", "q", 3), Value: []byte(text)}
}

func many(times int, o api.Op) []api.Op {
	return slices.Repeat([]api.Op{o}, times)
}

// named: an operation, and what there is to it.
type named struct {
	name string
	o    api.Op
}

// plainOps: one of every Kind, with no more in it than it must have.
func plainOps() []named {
	return []named{
		{"Put", api.Op{Kind: api.Put, K: key("r", "f", "", 0)}},
		{"DelCell", api.Op{Kind: api.DelCell, K: key("r", "f", "", 0)}},
		{"DelColumn", api.Op{Kind: api.DelColumn, K: key("r", "f", "", 0)}},
		{"DelRow", api.Op{Kind: api.DelRow, K: api.Key{Row: "r"}}},
		{"CheckPut", api.Op{Kind: api.CheckPut, K: key("r", "f", "", 0)}},
		{"Batch", batch("r", api.Op{Kind: api.DelRow, K: api.Key{Row: "r"}})},
		{"Get", api.Op{Kind: api.Get, K: key("r", "f", "", 0)}},
		{"Scan", api.Op{Kind: api.Scan}},
	}
}

// rightOps: of every Kind, with all that it may have, at the limits, and with bytes of every sort.
func rightOps() []named {
	full := key(long(32), long(32), long(32), lastTime)
	odd := key("\x00\xff", "\xc3", "\x80\x01\x00", 300)
	fullPut := api.Op{Kind: api.Put, K: full, Value: value(256)}
	out := append(plainOps(),
		named{"Put with all", fullPut},
		named{"Put of odd bytes", api.Op{Kind: api.Put, K: odd, Value: []byte{0, 255, 128}}},
		named{"DelCell with all", api.Op{Kind: api.DelCell, K: full}},
		named{"DelCell of odd bytes", api.Op{Kind: api.DelCell, K: odd}},
		named{"DelColumn with all", api.Op{Kind: api.DelColumn, K: key(long(32), long(32), long(32), 0)}},
		named{"Get with all", api.Op{Kind: api.Get, K: key(long(32), long(32), long(32), 0)}},
		named{"DelRow with all", api.Op{Kind: api.DelRow, K: api.Key{Row: long(32)}}},
		named{"DelRow of odd bytes", api.Op{Kind: api.DelRow, K: api.Key{Row: "\x00"}}},
		named{"CheckPut with all", api.Op{Kind: api.CheckPut, K: full, Value: value(256), Has: true, Want: value(256)}},
		named{"CheckPut for nothing", api.Op{Kind: api.CheckPut, K: odd, Value: []byte("v"), Has: true}},
		named{"CheckPut for none", api.Op{Kind: api.CheckPut, K: odd, Value: []byte("v")}},
		named{"CheckPut of nothing", api.Op{Kind: api.CheckPut, K: odd, Has: true, Want: []byte{0}}},
		named{"Scan from", api.Op{Kind: api.Scan, K: api.Key{Row: "a"}}},
		named{"Scan to", api.Op{Kind: api.Scan, To: "b"}},
		named{"Scan from and to", api.Op{Kind: api.Scan, K: api.Key{Row: long(32)}, To: long(32)}},
		named{"Scan backwards", api.Op{Kind: api.Scan, K: api.Key{Row: "b"}, To: "a"}},
		named{"Batch of as many as may be", batch(long(32), many(8, fullPut)...)},
		named{"Batch of all that may be", batch("r", put("r", "v"),
			api.Op{Kind: api.DelCell, K: key("r", "g", "", 7)},
			api.Op{Kind: api.DelColumn, K: key("r", "h", "q", 0)},
			api.Op{Kind: api.DelRow, K: api.Key{Row: "r"}},
			put("r", ""))},
	)
	return out
}

// wrongOps: each with one thing wrong at least, of numbers and sizes that are read nevertheless.
func wrongOps() []named {
	k := key("r", "f", "q", 1)
	return []named{
		{"nothing", api.Op{}},
		{"no Kind", api.Op{K: k, Value: []byte("v")}},
		{"Kind 9", api.Op{Kind: 9, K: k}},
		{"Kind 100", api.Op{Kind: 100, K: k}},
		{"Put without a row", api.Op{Kind: api.Put, K: key("", "f", "q", 1)}},
		{"Put without a family", api.Op{Kind: api.Put, K: key("r", "", "q", 1)}},
		{"Put with To", api.Op{Kind: api.Put, K: k, To: "s"}},
		{"DelCell with Value", api.Op{Kind: api.DelCell, K: k, Value: []byte("v")}},
		{"DelColumn with Time", api.Op{Kind: api.DelColumn, K: k}},
		{"Get with Time", api.Op{Kind: api.Get, K: k}},
		{"DelRow without a row", api.Op{Kind: api.DelRow}},
		{"DelRow with a family", api.Op{Kind: api.DelRow, K: key("r", "f", "", 0)}},
		{"CheckPut with Want alone", api.Op{Kind: api.CheckPut, K: k, Want: []byte("w")}},
		{"Scan with a family", api.Op{Kind: api.Scan, K: key("", "f", "", 0)}},
		{"Batch of none", batch("r")},
		{"Batch without a row", batch("", put("", "v"))},
		{"Batch of another row", batch("r", put("r", "v"), put("s", "v"))},
		{"Batch of a question", batch("r", api.Op{Kind: api.Get, K: key("r", "f", "", 0)})},
		{"Batch of a check", batch("r", api.Op{Kind: api.CheckPut, K: k})},
		{"Batch of one that is not right", batch("r", put("r", "v"), api.Op{Kind: api.Put, K: key("r", "", "", 0)})},
		{"parts of a Put", api.Op{Kind: api.Put, K: k, Sub: many(1, put("r", "v"))}},
	}
}

// rightResults: at the limits, and with what only an error of the program would tell.
func rightResults() []api.Result {
	c := api.Cell{K: key(long(32), long(32), long(32), lastTime), Value: value(256), Gone: true}
	out := []api.Result{
		{},
		{E: api.Refused},
		{More: true},
		{E: api.Missing, Cells: []api.Cell{}, More: true},
		{Cells: []api.Cell{{K: key("r", "f", "", 0)}}},
		{Cells: []api.Cell{{K: key("\x00", "\xff", "\x80", 300), Value: []byte{0, 128}, Gone: true}, {K: key("r", "f", "", 1), Value: []byte("v")}}},
		{E: api.Full, Cells: slices.Repeat([]api.Cell{c}, 16), More: true},
	}
	for e := api.OK; e <= api.Refused; e++ {
		out = append(out, api.Result{E: e})
	}
	return out
}

// bytesOf: of an operation that must be right.
func bytesOf(t *testing.T, what string, o api.Op) []byte {
	t.Helper()
	b, k := op.Bytes(o)
	if k != api.OK {
		t.Fatalf("Bytes of %s: %d", what, k)
	}
	return b
}
