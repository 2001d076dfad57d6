package tablet_test

import (
	"bytes"
	"cmp"
	"crypto/sha256"
	"encoding/binary"
	"fmt"
	"math"
	"slices"
	"strings"
	"testing"

	"bulwark/api"
	"bulwark/op"
	"bulwark/tablet"
	"bulwark/tree"
)

const lastTime = math.MaxUint64

func is[T comparable](t *testing.T, what string, got, want T) {
	t.Helper()
	if got != want {
		t.Errorf("%s: %#v, not %#v", what, got, want)
	}
}

func same(t *testing.T, what string, got, want []byte) {
	t.Helper()
	if !bytes.Equal(got, want) {
		t.Errorf("%s: %v, not %v", what, got, want)
	}
}

func key(row, family, qual string, time uint64) api.Key {
	return api.Key{Row: row, Family: family, Qual: qual, Time: time}
}

// at: a key of a column of that row.
func at(row string, time uint64) api.Key {
	return key(row, "f", "", time)
}

func with(k api.Key, value string) api.Cell {
	return api.Cell{K: k, Value: []byte(value)}
}

func gone(k api.Key) api.Cell {
	return api.Cell{K: k, Gone: true}
}

func long(size int) string {
	return strings.Repeat("n", size)
}

// Operations, by what they have.
func put(k api.Key, value string) api.Op {
	return api.Op{Kind: api.Put, K: k, Value: []byte(value)}
}

func delCell(k api.Key) api.Op {
	return api.Op{Kind: api.DelCell, K: k}
}

func delColumn(k api.Key) api.Op {
	return api.Op{Kind: api.DelColumn, K: key(k.Row, k.Family, k.Qual, 0)}
}

func delRow(row string) api.Op {
	return api.Op{Kind: api.DelRow, K: api.Key{Row: row}}
}

func get(k api.Key) api.Op {
	return api.Op{Kind: api.Get, K: key(k.Row, k.Family, k.Qual, 0)}
}

// putIf, putNew: CheckPuts with Has and without it.
func putIf(k api.Key, want, value string) api.Op {
	return api.Op{Kind: api.CheckPut, K: k, Has: true, Want: []byte(want), Value: []byte(value)}
}

func putNew(k api.Key, value string) api.Op {
	return api.Op{Kind: api.CheckPut, K: k, Value: []byte(value)}
}

func batch(row string, parts ...api.Op) api.Op {
	return api.Op{Kind: api.Batch, K: api.Key{Row: row}, Sub: parts}
}

func scan(row, to string) api.Op {
	return api.Op{Kind: api.Scan, K: api.Key{Row: row}, To: to}
}

// text: all that there is in a cell, so that cells can be held against one another.
func text(c api.Cell) string {
	return fmt.Sprintf("%q %q %q %d: %q, gone: %v", c.K.Row, c.K.Family, c.K.Qual, c.K.Time, c.Value, c.Gone)
}

func texts(l []api.Cell) string {
	var out []string
	for _, c := range l {
		out = append(out, text(c))
	}
	return strings.Join(out, "\n")
}

func sameCells(t *testing.T, what string, got, want []api.Cell) {
	t.Helper()
	if texts(got) != texts(want) {
		t.Errorf("%s:\n%s\nnot\n%s", what, texts(got), texts(want))
	}
}

func sameResult(t *testing.T, what string, got, want api.Result) {
	t.Helper()
	is(t, what, got.E, want.E)
	is(t, what+": More", got.More, want.More)
	sameCells(t, what+": Cells", got.Cells, want.Cells)
}

// byKeys: the order of chapter 4, by the library's means alone.
func byKeys(a, b api.Cell) int {
	return cmp.Or(strings.Compare(a.K.Row, b.K.Row), strings.Compare(a.K.Family, b.K.Family), strings.Compare(a.K.Qual, b.K.Qual), cmp.Compare(b.K.Time, a.K.Time))
}

func sorted(l []api.Cell) []api.Cell {
	return slices.SortedFunc(slices.Values(l), byKeys)
}

// itemOf: the words of chapters 4 and 10, by the library's means alone.
func itemOf(c api.Cell) api.Item {
	var k []byte
	for _, name := range []string{c.K.Row, c.K.Family, c.K.Qual} {
		k = append(k, strings.ReplaceAll(name, "\x00", "\x00\xff")+"\x00\x01"...)
	}
	k = binary.BigEndian.AppendUint64(k, lastTime-c.K.Time)
	if c.Gone {
		return api.Item{Key: k, Value: []byte{1}}
	}
	return api.Item{Key: k, Value: append([]byte{0}, c.Value...)}
}

func itemsOf(l []api.Cell) []api.Item {
	var out []api.Item
	for _, c := range l {
		out = append(out, itemOf(c))
	}
	return out
}

func sameItems(t *testing.T, what string, got, want []api.Item) {
	t.Helper()
	equal := func(a, b api.Item) bool { return bytes.Equal(a.Key, b.Key) && bytes.Equal(a.Value, b.Value) }
	if !slices.EqualFunc(got, want, equal) {
		t.Errorf("%s: %q, not %q", what, got, want)
	}
}

// rootOf: of any tablet of these cells; all but the tree's own root by the library's means alone.
func rootOf(t *testing.T, from, to string, l []api.Cell) []byte {
	t.Helper()
	x, kind := tree.Make(itemsOf(l))
	is(t, "Make", kind, api.OK)
	form := append(binary.AppendUvarint(nil, 6), "tablet\x03"...)
	for _, part := range [][]byte{[]byte(from), []byte(to), x.Root()} {
		form = append(binary.AppendUvarint(form, uint64(len(part))), part...)
	}
	sum := sha256.Sum256(form)
	return sum[:]
}

// holds: all that can be asked of a tablet is as it must be of these bounds and cells.
func holds(t *testing.T, what string, x *tablet.Tablet, from, to string, l []api.Cell) {
	t.Helper()
	l = sorted(l)
	gotFrom, gotTo := x.Bounds()
	is(t, what+": from", gotFrom, from)
	is(t, what+": to", gotTo, to)
	sameCells(t, what+": Cells", x.Cells(), l)
	items, more := x.Tree().Items(nil, bytes.Repeat([]byte{255}, 300), math.MaxInt)
	is(t, what+": more items", more, false)
	sameItems(t, what+": items", items, itemsOf(l))
	is(t, what+": Len", x.Tree().Len(), len(l))
	same(t, what+": Root", x.Root(), rootOf(t, from, to, l))
}

func made(t *testing.T, from, to string) *tablet.Tablet {
	t.Helper()
	x, kind := tablet.New(from, to)
	is(t, fmt.Sprintf("New %q to %q", from, to), kind, api.OK)
	return x
}

func of(t *testing.T, from, to string, l ...api.Cell) *tablet.Tablet {
	t.Helper()
	x, kind := tablet.Of(from, to, l)
	is(t, fmt.Sprintf("Of %q to %q", from, to), kind, api.OK)
	return x
}

// notOf: no tablet, and why.
func notOf(t *testing.T, what, from, to string, l []api.Cell, want api.Kind) {
	t.Helper()
	x, kind := tablet.Of(from, to, l)
	is(t, what, kind, want)
	is(t, what+": the tablet", x, nil)
}

// does: an operation without an error, that tells these cells.
func does(t *testing.T, what string, x *tablet.Tablet, o api.Op, cells ...api.Cell) {
	t.Helper()
	sameResult(t, what, x.Apply(o), api.Result{Cells: cells})
}

// fails: an operation with an error, behind which nothing has changed.
func fails(t *testing.T, what string, x *tablet.Tablet, o api.Op, want api.Kind) {
	t.Helper()
	from, to := x.Bounds()
	before := x.Cells()
	sameResult(t, what, x.Apply(o), api.Result{E: want})
	holds(t, what, x, from, to, before)
}

// some: cells of columns of their own, that rise, in rows from b on and below c.
func some(count int) []api.Cell {
	var out []api.Cell
	for i := range count {
		out = append(out, with(at(fmt.Sprintf("b%03d", i), uint64(i)), fmt.Sprint("value ", i)))
	}
	return out
}

// versions: of one column of that row, the newest first: of times from least + count - 1 down to least.
func versions(row string, least uint64, count int) []api.Cell {
	var out []api.Cell
	for i := range uint64(count) {
		out = append(out, with(at(row, least+i), fmt.Sprint("at ", least+i)))
	}
	slices.Reverse(out)
	return out
}

// model: a tablet by the chapter's words, of a plain list of cells.
type model struct {
	from, to string
	cells    []api.Cell
}

func (m *model) clone() *model {
	return &model{m.from, m.to, slices.Clone(m.cells)}
}

func (m *model) apply(o api.Op) api.Result {
	if op.Right(o) != api.OK {
		return api.Result{E: api.BadOp}
	}
	row := o.K.Row
	outside := row < m.from || m.to != "" && row >= m.to
	if o.Kind == api.Scan {
		outside = row < m.from || m.to != "" && row > m.to || m.to != "" && o.To != "" && o.To > m.to
	}
	if outside {
		return api.Result{E: api.Outside}
	}
	behind := m.clone()
	r := behind.act(o)
	if r.E == api.OK {
		*m = *behind
	}
	return r
}

// those: the cells that are asked for, by keys, and all others.
func (m *model) those(asked func(api.Cell) bool) (in, out []api.Cell) {
	for _, c := range sorted(m.cells) {
		if asked(c) {
			in = append(in, c)
		} else {
			out = append(out, c)
		}
	}
	return in, out
}

func (m *model) act(o api.Op) api.Result {
	inColumn := func(c api.Cell) bool {
		return c.K.Row == o.K.Row && c.K.Family == o.K.Family && c.K.Qual == o.K.Qual
	}
	switch o.Kind {
	case api.Put:
		return api.Result{E: m.put(api.Cell{K: o.K, Value: o.Value}, inColumn)}
	case api.DelCell:
		in, out := m.those(func(c api.Cell) bool { return c.K == o.K && !c.Gone })
		if len(in) == 0 {
			return api.Result{E: api.Missing}
		}
		m.cells = append(out, gone(o.K))
	case api.DelColumn, api.DelRow:
		in, out := m.those(func(c api.Cell) bool {
			return c.K.Row == o.K.Row && (o.Kind == api.DelRow || inColumn(c))
		})
		if len(in) == 0 {
			return api.Result{E: api.Missing}
		}
		m.cells = out
	case api.Get:
		in, _ := m.those(inColumn)
		if len(in) == 0 || in[0].Gone {
			return api.Result{E: api.Missing}
		}
		return api.Result{Cells: in[:1]}
	case api.CheckPut:
		told := m.act(get(o.K))
		holds := o.Has && told.E == api.OK && string(told.Cells[0].Value) == string(o.Want) || !o.Has && told.E != api.OK
		if !holds {
			return api.Result{E: api.Refused}
		}
		return m.act(api.Op{Kind: api.Put, K: o.K, Value: o.Value})
	case api.Batch:
		for _, part := range o.Sub {
			if r := m.act(part); r.E != api.OK {
				return api.Result{E: r.E}
			}
		}
	case api.Scan:
		in, _ := m.those(func(c api.Cell) bool {
			return c.K.Row >= o.K.Row && (o.To == "" || c.K.Row < o.To) && !c.Gone
		})
		return api.Result{Cells: in[:min(len(in), 16)], More: len(in) > 16}
	}
	return api.Result{}
}

func (m *model) put(c api.Cell, inColumn func(api.Cell) bool) api.Kind {
	of, others := m.those(func(x api.Cell) bool { return x.K == c.K })
	column, _ := m.those(inColumn)
	if len(of) == 0 && len(column) < 4 && len(m.cells) >= 32 {
		return api.Full
	}
	m.cells = append(others, c)
	column, rest := m.those(inColumn)
	m.cells = append(rest, column[:min(len(column), 4)]...)
	return api.OK
}

// spoil writes into all that others could see, the spare room too.
func spoil(b []byte) {
	b = b[:cap(b)]
	for i := range b {
		b[i] = 99
	}
}

func spoilCells(l []api.Cell) {
	for _, c := range l[:cap(l)] {
		spoil(c.Value)
	}
	clear(l[:cap(l)])
}

// roomy: the list, with room behind it that must stay as it is.
func roomy[T any](l []T, room ...T) []T {
	return append(slices.Clone(l), room...)[:len(l)]
}

func roomyCells(l []api.Cell) []api.Cell {
	var out []api.Cell
	for _, c := range l {
		c.Value = roomy(c.Value, 7, 7, 7)
		out = append(out, c)
	}
	return roomy(out, with(at("room", 1), "room"), with(at("room", 2), "room"))
}

func roomyOp(o api.Op) api.Op {
	o.Value, o.Want = roomy(o.Value, 7, 7, 7), roomy(o.Want, 7, 7, 7)
	var parts []api.Op
	for _, part := range o.Sub {
		parts = append(parts, roomyOp(part))
	}
	o.Sub = roomy(parts, put(at("room", 1), "room"))
	return o
}

// dumpCells, dumpOp: all of it, its spare room too.
func dumpCells(l []api.Cell) string {
	out := fmt.Sprint(len(l))
	for _, c := range l[:cap(l)] {
		out += fmt.Sprintf(" %s %d %v", text(c), len(c.Value), c.Value[:cap(c.Value)])
	}
	return out
}

func dumpOp(o api.Op) string {
	out := fmt.Sprintf("%d %v %q %v %d %v %d %v %d:", o.Kind, o.K, o.To, o.Has, len(o.Value), o.Value[:cap(o.Value)], len(o.Want), o.Want[:cap(o.Want)], len(o.Sub))
	for _, part := range o.Sub[:cap(o.Sub)] {
		out += " (" + dumpOp(part) + ")"
	}
	return out
}

func spoilOp(o api.Op) {
	spoil(o.Value)
	spoil(o.Want)
	for _, part := range o.Sub[:cap(o.Sub)] {
		spoilOp(part)
	}
	clear(o.Sub[:cap(o.Sub)])
}
