package tablet_test

import (
	"bytes"
	"fmt"
	"math/rand"
	"slices"
	"testing"

	"bulwark/api"
	"bulwark/tablet"
)

// someCells: with keys and values at their limits.
func someCells() []api.Cell {
	keys := []api.Key{
		at("b", 0), at("b", 1), at("b", lastTime), key("b", "f", "q", 256), key("\x00", "\x00", "\x00", 5), key("\xff", "\xff", "\xff", 5),
		key("\x00\x01", "\x01\x00", "\x00\xff", 1<<63), key(long(32), long(32), long(32), 1<<32), key("b", "f", "\x00", lastTime-1),
	}
	var out []api.Cell
	for _, k := range keys {
		for _, value := range []string{"", "v", "\x00", "\x01", "\x00\x01\x02", long(255), long(256)} {
			out = append(out, with(k, value))
		}
		out = append(out, gone(k))
	}
	return out
}

// P1003: written out.
func TestP1003Item(t *testing.T) {
	k := []byte{'a', 0, 1, 'b', 0, 1, 0, 1, 255, 255, 255, 255, 255, 255, 255, 255}
	for name, c := range map[string]struct {
		cell  api.Cell
		value string
	}{
		"a value":                    {with(key("a", "b", "", 0), "v"), "\x00v"},
		"an empty one":               {with(key("a", "b", "", 0), ""), "\x00"},
		"none":                       {api.Cell{K: key("a", "b", "", 0)}, "\x00"},
		"one that begins by 1":       {with(key("a", "b", "", 0), "\x01"), "\x00\x01"},
		"gone":                       {gone(key("a", "b", "", 0)), "\x01"},
		"gone, with a value, so not": {api.Cell{K: key("a", "b", "", 0), Value: []byte("v"), Gone: true}, "\x01"},
		"too long":                   {with(key("a", "b", "", 0), long(257)), "\x00" + long(257)},
	} {
		x := tablet.Item(c.cell)
		same(t, name+": Key", x.Key, k)
		same(t, name+": Value", x.Value, []byte(c.value))
	}
}

func TestP1003ItemOfAny(t *testing.T) {
	for _, c := range someCells() {
		sameItems(t, text(c), []api.Item{tablet.Item(c)}, []api.Item{itemOf(c)})
	}
}

// P1003: of a key that is not right the item's key is empty, and its value as ever.
func TestP1003ItemOfWrongKeys(t *testing.T) {
	for _, k := range []api.Key{{}, key("", "f", "q", 1), key("b", "", "q", 1), at(long(33), 1), key("b", long(33), "", 1), key("b", "f", long(33), 1)} {
		for _, c := range []struct {
			cell  api.Cell
			value string
		}{{with(k, "v"), "\x00v"}, {with(k, ""), "\x00"}, {gone(k), "\x01"}} {
			x := tablet.Item(c.cell)
			is(t, text(c.cell)+": Key", len(x.Key), 0)
			same(t, text(c.cell)+": Value", x.Value, []byte(c.value))
		}
	}
}

func TestP1003Cell(t *testing.T) {
	for _, want := range someCells() {
		c, kind := tablet.Cell(itemOf(want))
		is(t, text(want), kind, api.OK)
		is(t, "Cell", text(c), text(want))
	}
}

func TestP1003ThereAndBack(t *testing.T) {
	for _, want := range someCells() {
		x := tablet.Item(want)
		c, kind := tablet.Cell(x)
		is(t, text(want), kind, api.OK)
		is(t, "Cell of Item", text(c), text(want))
		sameItems(t, "Item of Cell", []api.Item{tablet.Item(c)}, []api.Item{x})
	}
}

// isNone: no cell's item, and why.
func isNone(t *testing.T, what string, x api.Item, want api.Kind) {
	t.Helper()
	c, kind := tablet.Cell(x)
	is(t, what, kind, want)
	is(t, what+": the cell", text(c), text(api.Cell{}))
}

// wrongValues: of no cell's item.
func wrongValues() map[string][]byte {
	return map[string][]byte{
		"nil": nil, "empty": {}, "two": {2}, "255": {255}, "two and more": []byte("\x02v"), "a digit": []byte("0"), "a text": []byte("value"),
		"gone and nought": {1, 0}, "gone and one": {1, 1}, "gone and a value": []byte("\x01v"), "gone and much": append([]byte{1}, long(256)...),
		"a value of 257": append([]byte{0}, long(257)...), "a value of 1023": append([]byte{0}, long(1023)...), "a value of many": append([]byte{0}, long(1<<16)...),
	}
}

func TestP1003CellOfWrongValues(t *testing.T) {
	k := itemOf(gone(at("b", 1))).Key
	for name, value := range wrongValues() {
		isNone(t, name, api.Item{Key: k, Value: value}, api.BadForm)
	}
	for first := range 256 {
		value := []byte{byte(first)}
		_, kind := tablet.Cell(api.Item{Key: k, Value: value})
		is(t, fmt.Sprint("first byte ", first), kind == api.OK, first < 2)
		_, kind = tablet.Cell(api.Item{Key: k, Value: append(value, 'v')})
		is(t, fmt.Sprint("first byte and one more ", first), kind == api.OK, first == 0)
	}
}

// P1003: a key that is none is told ahead of the value.
func TestP1003CellOfWrongKeys(t *testing.T) {
	right := itemOf(with(key("b\x00", "f", "q", 7), "v")).Key
	keys := map[string][]byte{"nil": nil, "empty": {}, "a text": []byte("b"), "zeros": make([]byte, 20), "one more": append(bytes.Clone(right), 0), "no family": itemOf(gone(key("b", "", "q", 1))).Key, "no row": itemOf(gone(key("", "f", "q", 1))).Key, "a long row": itemOf(gone(at(long(33), 1))).Key}
	for i := range right {
		keys[fmt.Sprint(i, " bytes")] = right[:i]
	}
	values := wrongValues()
	values["right"], values["gone"] = []byte("\x00v"), []byte{1}
	for name, k := range keys {
		for other, value := range values {
			isNone(t, name+", "+other, api.Item{Key: k, Value: value}, api.BadKey)
		}
	}
}

// P1003: what is a cell of any item is just that item's.
func TestP1003CellOfAny(t *testing.T) {
	r := rand.New(rand.NewSource(1003))
	cells := someCells()
	read := 0
	for range 20000 {
		x := itemOf(cells[r.Intn(len(cells))])
		part := &x.Key
		if r.Intn(2) == 0 {
			part = &x.Value
		}
		i := r.Intn(len(*part) + 1)
		switch r.Intn(3) {
		case 0:
			*part = slices.Insert(*part, i, byte(r.Intn(3)-1))
		case 1:
			*part = slices.Delete(*part, min(i, len(*part)-1), min(i, len(*part)-1)+1)
		default:
			(*part)[min(i, len(*part)-1)] = byte(r.Intn(4) - 1)
		}
		if c, kind := tablet.Cell(x); kind == api.OK {
			read++
			sameItems(t, "Item of Cell", []api.Item{tablet.Item(c)}, []api.Item{x})
		} else {
			isNone(t, "any", x, kind)
		}
	}
	if read < 1000 || read > 19000 {
		t.Errorf("%d were read", read)
	}
}

// P1003 with rule 4: neither keeps what it is given, and each answer is memory of its own.
func TestP1003ItemMemory(t *testing.T) {
	for _, want := range someCells() {
		c := roomyCells([]api.Cell{want})
		before := dumpCells(c)
		x, y := tablet.Item(c[0]), tablet.Item(c[0])
		spoil(x.Key)
		is(t, "a value apart from its key", string(x.Value), string(y.Value))
		spoil(x.Value)
		is(t, "the cell", dumpCells(c), before)
		spoilCells(c)
		sameItems(t, "Item", []api.Item{y}, []api.Item{itemOf(want)})

		item := itemOf(want)
		item.Key, item.Value = roomy(item.Key, 7, 7), roomy(item.Value, 7, 7)
		whole := fmt.Sprint(item.Key[:cap(item.Key)], item.Value[:cap(item.Value)])
		one, _ := tablet.Cell(item)
		two, _ := tablet.Cell(item)
		spoil(one.Value)
		is(t, "the item", fmt.Sprint(item.Key[:cap(item.Key)], item.Value[:cap(item.Value)]), whole)
		spoil(item.Key)
		spoil(item.Value)
		is(t, "Cell", text(two), text(want))
	}
}
