package split_test

import (
	"bytes"
	"cmp"
	"fmt"
	"math"
	"slices"
	"strings"
	"testing"

	"bulwark/api"
	"bulwark/split"
	"bulwark/tablet"
)

const lastTime = math.MaxUint64

func is[T comparable](t *testing.T, what string, got, want T) {
	t.Helper()
	if got != want {
		t.Errorf("%s: %#v, not %#v", what, got, want)
	}
}

func key(row, family, qual string, time uint64) api.Key {
	return api.Key{Row: row, Family: family, Qual: qual, Time: time}
}

// at: a key of a column of that row.
func at(row string, time uint64) api.Key {
	return key(row, "f", "", time)
}

func with(k api.Key, value string) api.Cell {
	return api.Cell{K: k, Value: []byte(value)}
}

func gone(k api.Key) api.Cell {
	return api.Cell{K: k, Gone: true}
}

func long(size int) string {
	return strings.Repeat("n", size)
}

// Operations, by what they have.
func put(k api.Key, value string) api.Op {
	return api.Op{Kind: api.Put, K: k, Value: []byte(value)}
}

func delCell(k api.Key) api.Op {
	return api.Op{Kind: api.DelCell, K: k}
}

func delColumn(k api.Key) api.Op {
	return api.Op{Kind: api.DelColumn, K: key(k.Row, k.Family, k.Qual, 0)}
}

func delRow(row string) api.Op {
	return api.Op{Kind: api.DelRow, K: api.Key{Row: row}}
}

func get(k api.Key) api.Op {
	return api.Op{Kind: api.Get, K: key(k.Row, k.Family, k.Qual, 0)}
}

// putIf, putNew: CheckPuts with Has and without it.
func putIf(k api.Key, want, value string) api.Op {
	return api.Op{Kind: api.CheckPut, K: k, Has: true, Want: []byte(want), Value: []byte(value)}
}

func putNew(k api.Key, value string) api.Op {
	return api.Op{Kind: api.CheckPut, K: k, Value: []byte(value)}
}

func batch(row string, parts ...api.Op) api.Op {
	return api.Op{Kind: api.Batch, K: api.Key{Row: row}, Sub: parts}
}

func scan(row, to string) api.Op {
	return api.Op{Kind: api.Scan, K: api.Key{Row: row}, To: to}
}

// texts: all that there is in cells, so that they can be held against one another.
func texts(l []api.Cell) string {
	var out []string
	for _, c := range l {
		out = append(out, fmt.Sprintf("%q %q %q %d: %q, gone: %v", c.K.Row, c.K.Family, c.K.Qual, c.K.Time, c.Value, c.Gone))
	}
	return strings.Join(out, "\n")
}

func sameCells(t *testing.T, what string, got, want []api.Cell) {
	t.Helper()
	if texts(got) != texts(want) {
		t.Errorf("%s:\n%s\nnot\n%s", what, texts(got), texts(want))
	}
}

func sameResult(t *testing.T, what string, got, want api.Result) {
	t.Helper()
	is(t, what, got.E, want.E)
	is(t, what+": More", got.More, want.More)
	sameCells(t, what+": Cells", got.Cells, want.Cells)
}

// sorted: the order of chapter 4, by the library's means alone.
func sorted(l []api.Cell) []api.Cell {
	return slices.SortedFunc(slices.Values(l), func(a, b api.Cell) int {
		return cmp.Or(strings.Compare(a.K.Row, b.K.Row), strings.Compare(a.K.Family, b.K.Family), strings.Compare(a.K.Qual, b.K.Qual), cmp.Compare(b.K.Time, a.K.Time))
	})
}

// inRows: of the cells those of rows not below from, and below to (of an empty one: all).
func inRows(from, to string, l []api.Cell) []api.Cell {
	var out []api.Cell
	for _, c := range l {
		if c.K.Row >= from && (to == "" || c.K.Row < to) {
			out = append(out, c)
		}
	}
	return out
}

func of(t *testing.T, from, to string, l ...api.Cell) *tablet.Tablet {
	t.Helper()
	x, kind := tablet.Of(from, to, l)
	is(t, fmt.Sprintf("Of %q to %q", from, to), kind, api.OK)
	return x
}

// holds: all that can be asked of a tablet is as it is of a new one of these bounds and cells.
func holds(t *testing.T, what string, x *tablet.Tablet, from, to string, l []api.Cell) {
	t.Helper()
	gotFrom, gotTo := x.Bounds()
	is(t, what+": from", gotFrom, from)
	is(t, what+": to", gotTo, to)
	sameCells(t, what+": Cells", x.Cells(), sorted(l))
	is(t, what+": Len", x.Tree().Len(), len(l))
	is(t, what+": Root", bytes.Equal(x.Root(), of(t, from, to, l...).Root()), true)
}

// cut, laid: without an error.
func cut(t *testing.T, x *tablet.Tablet, row string) (a, b *tablet.Tablet) {
	t.Helper()
	a, b, kind := split.Split(x, row)
	is(t, fmt.Sprintf("Split at %q", row), kind, api.OK)
	return a, b
}

func laid(t *testing.T, a, b *tablet.Tablet) *tablet.Tablet {
	t.Helper()
	x, kind := split.Merge(a, b)
	is(t, "Merge", kind, api.OK)
	return x
}

// notCut, notLaid: no tablets, and why.
func notCut(t *testing.T, what string, x *tablet.Tablet, row string, want api.Kind) {
	t.Helper()
	a, b, kind := split.Split(x, row)
	is(t, what, kind, want)
	is(t, what+": the first", a, nil)
	is(t, what+": the second", b, nil)
}

func notLaid(t *testing.T, what string, a, b *tablet.Tablet, want api.Kind) {
	t.Helper()
	x, kind := split.Merge(a, b)
	is(t, what, kind, want)
	is(t, what+": the tablet", x, nil)
}

// does: an operation without an error, that tells these cells.
func does(t *testing.T, what string, x *tablet.Tablet, o api.Op, cells ...api.Cell) {
	t.Helper()
	sameResult(t, what, x.Apply(o), api.Result{Cells: cells})
}

// some: cells of rows of their own, that rise, from that row on: the row's name and three digits.
func some(row string, count int) []api.Cell {
	var out []api.Cell
	for i := range count {
		out = append(out, with(at(fmt.Sprintf("%s%03d", row, i), uint64(i)), fmt.Sprint("value ", i)))
	}
	return out
}

// lists: cells of rows from b to n, of many kinds.
func lists() map[string][]api.Cell {
	column := []api.Cell{with(at("g", 0), "0"), with(at("g", 1), ""), with(at("g", 2), "2"), with(at("g", lastTime), long(256))}
	row := []api.Cell{with(at("g", 1), "1"), with(key("g", "e", "q", 1), "2"), with(key("g", "f", "q", 7), "3"), with(key("g", "f", "\x00", 7), "4"), gone(key("g", "f", "q", 8)), with(key("g", "\xff", "\xff", 0), "5")}
	around := []api.Cell{with(at("f\xff", 1), "1"), with(at("g\x00", 1), "2"), with(at("ga", 1), "3"), with(at("h", 1), "4"), with(at("b", 1), "5"), with(at("m\xff", 1), "6")}
	return map[string][]api.Cell{
		"nothing":       nil,
		"one at b":      {with(at("b", 1), "v")},
		"one at g":      {with(at("g", 1), "v")},
		"one at m":      {with(at("m", 1), "v")},
		"one gone":      {gone(at("g", 1))},
		"two rows":      {with(at("c", 1), "v"), with(at("k", 2), "w")},
		"two rows gone": {gone(at("c", 1)), gone(at("k", 2))},
		"a column":      column,
		"a row":         row,
		"around":        around,
		"a row and all": slices.Concat(around, row),
		"columns":       slices.Concat(column, around, []api.Cell{gone(at("b", 2)), gone(at("m\xff", 0)), gone(key("h", "g", "", 3))}),
		"full":          slices.Concat(some("c", 12), column, some("k", 16)),
		"full below g":  some("c", 32),
		"full above g":  some("h", 32),
	}
}

// bounds: of tablets that may have the cells of all lists.
func bounds() [][2]string {
	return [][2]string{{"", ""}, {"b", ""}, {"", "n"}, {"b", "n"}, {"a\xff", "n\x00"}, {"", "m\xff\x00"}, {"\x00", long(32)}}
}

// rows: at which a tablet of rows from b to n can be cut.
func rows() []string {
	return []string{"b\x00", "c", "c003", "c0030", "f\xff", "f\xff\xff", "g", "g\x00", "g\x00\x00", "ga", "h", "k", "k008", "m\xff"}
}
