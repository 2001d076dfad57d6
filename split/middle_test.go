package split_test

import (
	"fmt"
	"slices"
	"testing"

	"bulwark/api"
	"bulwark/split"
	"bulwark/tablet"
)

// middle: the row, or none, of a tablet that stays as it was.
func middle(t *testing.T, what string, l []api.Cell, want string, has bool) {
	t.Helper()
	for _, b := range [][2]string{{"", ""}, {"\x00", ""}, {"", "z"}, {"a", "z"}} {
		inside := inRows(b[0], b[1], l)
		if len(inside) < len(l) {
			continue
		}
		x := of(t, b[0], b[1], l...)
		row, isThere := split.Middle(x)
		is(t, what, row, want)
		is(t, what+": is there one", isThere, has)
		holds(t, what, x, b[0], b[1], l)
	}
}

// P1103: the chapter's example.
func TestP1103Example(t *testing.T) {
	middle(t, "a, b", []api.Cell{with(at("a", 0), ""), with(at("b", 0), "")}, "b", true)
}

func TestP1103Nil(t *testing.T) {
	row, has := split.Middle(nil)
	is(t, "nil", row, "")
	is(t, "nil: is there one", has, false)
	row, has = split.Middle(&tablet.Tablet{})
	is(t, "a zero tablet", row, "")
	is(t, "a zero tablet: is there one", has, false)
}

// P1103: of few rows there is none, however many cells they have.
func TestP1103FewRows(t *testing.T) {
	middle(t, "no row", nil, "", false)
	middle(t, "a row", []api.Cell{with(at("g", 1), "v")}, "", false)
	middle(t, "a row, gone", []api.Cell{gone(at("g", 1))}, "", false)
	middle(t, "a row of a column", lists()["a column"], "", false)
	middle(t, "a row of columns", lists()["a row"], "", false)
	var full []api.Cell
	for i := range 32 {
		full = append(full, with(key("g", "f", fmt.Sprint(i), uint64(i)), "v"))
	}
	middle(t, "a full row", full, "", false)
}

func TestP1103Rows(t *testing.T) {
	l := []api.Cell{with(at("b", 1), "1"), with(at("c", 1), "2"), with(at("d", 1), "3"), with(at("e", 1), "4")}
	middle(t, "two", l[:2], "c", true)
	middle(t, "three", l[:3], "c", true)
	middle(t, "four", l[:4], "d", true)
	for count := 2; count <= 32; count++ {
		l := some("b", count)
		want := fmt.Sprintf("b%03d", count/2)
		middle(t, fmt.Sprint(count, " rows"), l, want, true)
		slices.Reverse(l)
		middle(t, fmt.Sprint(count, " rows, the last first"), l, want, true)
	}
	middle(t, "bytes", []api.Cell{with(at("\xff", 1), ""), with(at("\x00", 1), ""), with(at("b", 1), "")}, "b", true)
	middle(t, "one within another", []api.Cell{with(at("b\x00", 1), ""), with(at("b", 1), "")}, "b\x00", true)
}

// P1103: a row counts once, be its cells one or many.
func TestP1103ManyCells(t *testing.T) {
	several := func(row string) []api.Cell {
		return []api.Cell{with(at(row, 1), "1"), with(at(row, 2), "2"), gone(at(row, 3)), with(key(row, "e", "", 1), ""), with(key(row, "f", "q", 9), "q"), with(key(row, "f", "r", 9), "r")}
	}
	b, c, d, e := with(at("b", 1), ""), with(at("c", 1), ""), with(at("d", 1), ""), with(at("e", 1), "")
	for name, l := range map[string][]api.Cell{"b": append(several("b"), c, d), "c": append(several("c"), b, d), "d": append(several("d"), b, c), "all": slices.Concat(several("b"), several("c"), several("d"))} {
		middle(t, "three, several in "+name, l, "c", true)
	}
	middle(t, "two, several in the first", append(several("b"), c), "c", true)
	middle(t, "two, several in the second", append(several("c"), b), "c", true)
	middle(t, "four, several in the first", append(several("b"), c, d, e), "d", true)
	middle(t, "four, several in the last", append(several("e"), b, c, d), "d", true)
	middle(t, "five", slices.Concat(several("b"), several("c"), several("d"), several("e"), several("f")), "d", true)
}

// P1103: cells that are Gone are cells.
func TestP1103Gone(t *testing.T) {
	b, c, d, e := at("b", 1), at("c", 1), at("d", 1), at("e", 1)
	middle(t, "two", []api.Cell{gone(b), gone(c)}, "c", true)
	middle(t, "the second of two", []api.Cell{with(b, "v"), gone(c)}, "c", true)
	middle(t, "the first of two", []api.Cell{gone(b), with(c, "v")}, "c", true)
	middle(t, "one of three", []api.Cell{with(b, "v"), gone(c), with(d, "v")}, "c", true)
	middle(t, "all of a row", []api.Cell{gone(b), gone(at("b", 2)), gone(key("b", "f", "q", 1)), with(c, "v"), gone(d), with(e, "v")}, "d", true)
	x := of(t, "", "", with(b, "v"), with(c, "v"), with(d, "v"), with(e, "v"))
	does(t, "DelCell", x, delCell(b))
	row, _ := split.Middle(x)
	is(t, "behind a DelCell", row, "d")
	does(t, "DelRow", x, delRow("e"))
	row, _ = split.Middle(x)
	is(t, "behind a DelRow", row, "c")
	does(t, "DelRow", x, delRow("c"))
	does(t, "DelRow", x, delRow("b"))
	row, has := split.Middle(x)
	is(t, "of the last", row, "")
	is(t, "of the last: is there one", has, false)
}

// P1103 with P1101: at the middle row a tablet can be cut, and both parts have cells.
func TestP1103CutThere(t *testing.T) {
	for name, l := range lists() {
		x := of(t, "b", "n", l...)
		row, has := split.Middle(x)
		if !has {
			continue
		}
		a, b := cut(t, x, row)
		is(t, name, len(a.Cells()) > 0 && len(b.Cells()) > 0, true)
		is(t, name+": the first of the second", b.Cells()[0].K.Row, row)
	}
}
