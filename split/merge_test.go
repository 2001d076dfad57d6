package split_test

import (
	"fmt"
	"slices"
	"testing"

	"bulwark/api"
	"bulwark/tablet"
)

// P1102: no tablet, in either place and in both, is told ahead of what is wrong with the other one.
func TestP1102Nil(t *testing.T) {
	notLaid(t, "both", nil, nil, api.Nil)
	for _, b := range append(bounds(), [][2]string{{"", "g"}, {"g", ""}, {"", ""}}...) {
		for _, l := range [][]api.Cell{nil, {with(at("b", 1), "v")}, some("c", 32)} {
			l = inRows(b[0], b[1], l)
			x := of(t, b[0], b[1], l...)
			notLaid(t, fmt.Sprintf("the first, %q", b), nil, x, api.Nil)
			notLaid(t, fmt.Sprintf("the second, %q", b), x, nil, api.Nil)
			holds(t, "the other", x, b[0], b[1], l)
		}
	}
	notLaid(t, "the first, of a zero tablet", nil, &tablet.Tablet{}, api.Nil)
	notLaid(t, "the second, of a zero tablet", &tablet.Tablet{}, nil, api.Nil)
}

// P1102: an empty to, also where b's from is as empty; a to above b's from and below it, by one byte too.
func TestP1102BadArg(t *testing.T) {
	all := [][2]string{{"", ""}, {"", "g"}, {"g", ""}, {"g", "n"}, {"b", "g"}, {"b", "f\xff"}, {"b", "g\x00"}, {"f\xff", "n"}, {"g\x00", "n"}, {"n", ""}, {"n", "z"}, {"", "b"}, {"c", "k"}, {"\x00", ""}, {"", "\x00"}, {long(32), ""}, {"", long(32)}, {"", long(31)}}
	met := 0
	for _, p := range all {
		for _, q := range all {
			what := fmt.Sprintf("%q and %q", p, q)
			a, b := of(t, p[0], p[1]), of(t, q[0], q[1])
			if p[1] != "" && p[1] == q[0] {
				holds(t, what, laid(t, a, b), p[0], q[1], nil)
				met++
			} else {
				notLaid(t, what, a, b, api.BadArg)
			}
			holds(t, what+": the first", a, p[0], p[1], nil)
			holds(t, what+": the second", b, q[0], q[1], nil)
		}
	}
	is(t, "how many met", met > 10, true)
	for _, b := range all {
		x := of(t, b[0], b[1])
		notLaid(t, fmt.Sprintf("%q and itself", b), x, x, api.BadArg)
	}
	notLaid(t, "zero tablets", &tablet.Tablet{}, &tablet.Tablet{}, api.BadArg)
}

// P1102: bounds that do not meet are told ahead of too many cells.
func TestP1102BadArgOfMany(t *testing.T) {
	low, high := some("c", 32), some("k", 32)
	for _, b := range [][4]string{{"b", "", "g", "n"}, {"b", "", "", ""}, {"b", "g", "g\x00", "n"}, {"b", "g", "f\xff", "n"}, {"", "g", "", ""}} {
		x, y := of(t, b[0], b[1], low...), of(t, b[2], b[3], high...)
		notLaid(t, fmt.Sprintf("%q", b), x, y, api.BadArg)
		holds(t, "the first", x, b[0], b[1], low)
		holds(t, "the second", y, b[2], b[3], high)
	}
	notLaid(t, "the other way round", of(t, "g", "n", high...), of(t, "b", "g", low...), api.BadArg)
}

// P1102: of each number of cells below at, as many above it that there are MaxCells, and one more; those that are Gone count.
func TestP1102Full(t *testing.T) {
	for below := range 33 {
		low := some("c", below)
		for i := range low {
			if i%3 == 0 {
				low[i] = gone(low[i].K)
			}
		}
		for _, more := range []int{-1, 0, 1, 2, 32} {
			above := 32 - below + more
			if above < 0 || above > 32 {
				continue
			}
			high := some("k", above)
			what := fmt.Sprintf("%d and %d", below, above)
			a, b := of(t, "b", "g", low...), of(t, "g", "", high...)
			if more > 0 {
				notLaid(t, what, a, b, api.Full)
			} else {
				holds(t, what, laid(t, a, b), "b", "", slices.Concat(low, high))
			}
			holds(t, what+": the first", a, "b", "g", low)
			holds(t, what+": the second", b, "g", "", high)
		}
	}
}

// P1102: cells of few rows, in columns that are full on both sides.
func TestP1102FullColumns(t *testing.T) {
	of4 := func(row string) []api.Cell {
		return []api.Cell{with(at(row, 1), "1"), gone(at(row, 2)), with(at(row, 3), ""), with(at(row, lastTime), long(256))}
	}
	var low, high []api.Cell
	for i := range 4 {
		low, high = append(low, of4(fmt.Sprint("c", i))...), append(high, of4(fmt.Sprint("k", i))...)
	}
	a, b := of(t, "", "g", low...), of(t, "g", "", high...)
	holds(t, "both", laid(t, a, b), "", "", slices.Concat(low, high))
	does(t, "one more", b, put(at("g", 0), "more"))
	notLaid(t, "one more", a, b, api.Full)
}

func TestP1102Cells(t *testing.T) {
	for name, l := range lists() {
		for _, bound := range bounds() {
			for _, row := range rows() {
				what := fmt.Sprintf("%s, %q, at %q", name, bound, row)
				low, high := inRows("", row, l), inRows(row, "", l)
				a, b := of(t, bound[0], row, low...), of(t, row, bound[1], high...)
				holds(t, what, laid(t, a, b), bound[0], bound[1], l)
				holds(t, what+": the first", a, bound[0], row, low)
				holds(t, what+": the second", b, row, bound[1], high)
			}
		}
	}
}

// P1102: each of the three goes its own way.
func TestP1102OwnWays(t *testing.T) {
	low, high := with(at("c", 1), "low"), with(at("k", 1), "high")
	for _, l := range [][]api.Cell{{low, high}, {low}, {high}} {
		a, b := of(t, "b", "g", inRows("", "g", l)...), of(t, "g", "n", inRows("g", "", l)...)
		x, y := laid(t, a, b), laid(t, a, b)
		does(t, "to the whole", x, put(at("c", 1), "changed"))
		does(t, "to the whole", x, put(at("k", 1), "changed too"))
		holds(t, "the first", a, "b", "g", inRows("", "g", l))
		holds(t, "the second", b, "g", "n", inRows("g", "", l))
		does(t, "to the first", a, put(at("c", 9), "9"))
		does(t, "to the second", b, put(at("k", 9), "9"))
		holds(t, "the whole", x, "b", "n", []api.Cell{with(at("c", 1), "changed"), with(at("k", 1), "changed too")})
		holds(t, "another whole", y, "b", "n", l)
	}
}
