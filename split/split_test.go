package split_test

import (
	"fmt"
	"slices"
	"testing"

	"bulwark/api"
	"bulwark/tablet"
)

// P1101: no tablet is told ahead of all that is wrong with at.
func TestP1101Nil(t *testing.T) {
	for _, row := range []string{"", "g", "\x00", long(32), long(33), long(1000)} {
		notCut(t, fmt.Sprintf("at %q", row), nil, row, api.Nil)
	}
}

// P1101: what at itself has wrong is told ahead of where it stands.
func TestP1101BadArg(t *testing.T) {
	for name, l := range lists() {
		for _, b := range bounds() {
			x := of(t, b[0], b[1], l...)
			for _, row := range []string{"", long(33), "c" + long(32), "\x00" + long(32), "z" + long(32), long(1 << 16)} {
				what := fmt.Sprintf("%s, %q, %d bytes", name, b, len(row))
				notCut(t, what, x, row, api.BadArg)
				holds(t, what, x, b[0], b[1], l)
			}
		}
	}
}

// P1101: at may have MaxName bytes.
func TestP1101LongAt(t *testing.T) {
	row := long(32)
	l := []api.Cell{with(at(long(31), 1), "below"), with(at(row, 1), "at"), with(at("o", 1), "above")}
	a, b := cut(t, of(t, "", "", l...), row)
	holds(t, "the first", a, "", row, l[:1])
	holds(t, "the second", b, row, "", l[1:])
	notCut(t, "one less, of bounds of as many", of(t, row, ""), long(31), api.Outside)
	notCut(t, "just at from", of(t, row, ""), row, api.Outside)
	notCut(t, "just at to", of(t, "", row), row, api.Outside)
	a, b = cut(t, of(t, long(31), row), long(31)+"\x00")
	holds(t, "the first of few", a, long(31), long(31)+"\x00", nil)
	holds(t, "the second of few", b, long(31)+"\x00", row, nil)
}

// P1101: at, held against bounds; bytes are held against one another, not letters.
func TestP1101Outside(t *testing.T) {
	for _, b := range [][2]string{{"", ""}, {"g", ""}, {"", "n"}, {"g", "n"}, {"g", "g\x00\x00"}, {"\x7f", "\x80"}, {"", "\x00\x00"}, {"\xff", ""}, {"", "\x00"}, {"g", "g\x00"}} {
		for _, row := range []string{"\x00", "\x00\x00", "a", "f", "f\xff", "g", "g\x00", "g\x00\x00", "ga", "m", "m\xff", "n", "n\x00", "z", "\x7f", "\x7f\x00", "\x80", "\xff", "\xff\x00", "G", "N", "é"} {
			what := fmt.Sprintf("%q at %q", b, row)
			x := of(t, b[0], b[1])
			if row > b[0] && (b[1] == "" || row < b[1]) {
				first, second := cut(t, x, row)
				holds(t, what+": the first", first, b[0], row, nil)
				holds(t, what+": the second", second, row, b[1], nil)
			} else {
				notCut(t, what, x, row, api.Outside)
			}
			holds(t, what, x, b[0], b[1], nil)
		}
	}
}

// P1101: at the bounds and one beside them, of a tablet with cells there.
func TestP1101AtBounds(t *testing.T) {
	l := []api.Cell{with(at("g", 1), "first"), with(at("g\x00", 1), "next"), with(at("m\xff", 1), "last")}
	x := of(t, "g", "n", l...)
	for _, row := range []string{"a", "f\xff", "g", "n", "n\x00", "z", "\xff"} {
		notCut(t, fmt.Sprintf("at %q", row), x, row, api.Outside)
		holds(t, "the tablet", x, "g", "n", l)
	}
	a, b := cut(t, x, "g\x00")
	holds(t, "just above from: the first", a, "g", "g\x00", l[:1])
	holds(t, "just above from: the second", b, "g\x00", "n", l[1:])
	a, b = cut(t, x, "m\xff")
	holds(t, "just below to: the first", a, "g", "m\xff", l[:2])
	holds(t, "just below to: the second", b, "m\xff", "n", l[2:])
	a, b = cut(t, x, "m\xff\xff")
	holds(t, "above all: the first", a, "g", "m\xff\xff", l)
	holds(t, "above all: the second", b, "m\xff\xff", "n", nil)
	a, b = cut(t, of(t, "g", "", l...), "\xff\xff")
	holds(t, "without a to: the first", a, "g", "\xff\xff", l)
	holds(t, "without a to: the second", b, "\xff\xff", "", nil)
}

func TestP1101Parts(t *testing.T) {
	for name, l := range lists() {
		for _, bound := range bounds() {
			for _, row := range rows() {
				what := fmt.Sprintf("%s, %q, at %q", name, bound, row)
				x := of(t, bound[0], bound[1], l...)
				a, b := cut(t, x, row)
				holds(t, what+": the first", a, bound[0], row, inRows("", row, l))
				holds(t, what+": the second", b, row, bound[1], inRows(row, "", l))
				holds(t, what+": the tablet", x, bound[0], bound[1], l)
			}
		}
	}
}

// P1101: cells of the row at itself are the second's, all of them, and those just below it the first's.
func TestP1101RowAt(t *testing.T) {
	below := []api.Cell{with(key("f\xff", "\xff", "\xff", 0), "1"), gone(at("f\xff\xff", 1))}
	row := []api.Cell{with(key("g", "\x00", "", lastTime), "2"), with(at("g", 1), "3"), gone(at("g", 2)), with(key("g", "f", "q", 1), "4")}
	above := []api.Cell{with(at("g\x00", 1), "5")}
	x := of(t, "", "", slices.Concat(above, row, below)...)
	a, b := cut(t, x, "g")
	holds(t, "the first", a, "", "g", below)
	holds(t, "the second", b, "g", "", append(row, above...))
	a, b = cut(t, b, "g\x00")
	holds(t, "the row", a, "g", "g\x00", row)
	holds(t, "the rest", b, "g\x00", "", above)
}

// P1101: each of the three goes its own way.
func TestP1101OwnWays(t *testing.T) {
	low, high := with(at("c", 1), "low"), with(at("k", 1), "high")
	for _, l := range [][]api.Cell{{low, high}, {low}, {high}} {
		x := of(t, "b", "n", l...)
		a, b := cut(t, x, "g")
		c, d := cut(t, x, "g")
		does(t, "to the first", a, put(at("c", 1), "changed"))
		does(t, "to the first", a, put(at("d", 1), "new"))
		holds(t, "the tablet", x, "b", "n", l)
		holds(t, "the second", b, "g", "n", inRows("g", "", l))
		does(t, "to the second", b, put(at("k", 1), "changed too"))
		does(t, "to the second", b, put(at("l", 1), "new too"))
		holds(t, "the tablet, behind both", x, "b", "n", l)
		does(t, "to the tablet", x, put(at("c", 9), "9"))
		does(t, "to the tablet", x, put(at("k", 9), "9"))
		holds(t, "the first, behind all", a, "b", "g", []api.Cell{with(at("c", 1), "changed"), with(at("d", 1), "new")})
		holds(t, "the second, behind all", b, "g", "n", []api.Cell{with(at("k", 1), "changed too"), with(at("l", 1), "new too")})
		holds(t, "another first", c, "b", "g", inRows("", "g", l))
		holds(t, "another second", d, "g", "n", inRows("g", "", l))
	}
}

// P1101: a tablet that nobody made by New is the empty one of all rows.
func TestP1101ZeroTablet(t *testing.T) {
	x := &tablet.Tablet{}
	a, b := cut(t, x, "g")
	holds(t, "the first", a, "", "g", nil)
	holds(t, "the second", b, "g", "", nil)
	notCut(t, "at nothing", x, "", api.BadArg)
}

// P1101: each part can be cut again, till there is nothing between from and to.
func TestP1101CutAgain(t *testing.T) {
	l := lists()["columns"]
	b, from := of(t, "", "", l...), ""
	for _, row := range rows() {
		if from != "" {
			notCut(t, "at from", b, from, api.Outside)
		}
		var a *tablet.Tablet
		a, b = cut(t, b, row)
		holds(t, fmt.Sprintf("up to %q", row), a, from, row, inRows(from, row, l))
		holds(t, fmt.Sprintf("from %q on", row), b, row, "", inRows(row, "", l))
		notCut(t, "at to", a, row, api.Outside)
		from = row
	}
	narrow := of(t, "g", "g\x00", with(at("g", 1), "v"))
	for _, row := range []string{"f", "g", "g\x00", "g\x00\x00", "h"} {
		notCut(t, "of one row", narrow, row, api.Outside)
	}
}
