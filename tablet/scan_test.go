package tablet_test

import (
	"fmt"
	"slices"
	"testing"

	"bulwark/api"
)

// P1002: which scans are outside: each row and To, of each bounds, by the chapter's words.
func TestP1002ScanOutside(t *testing.T) {
	rows := []string{"", "\x00", "a", "a\xff", "b", "b\x00", "c", "m\xff", "n", "n\x00", "o", "\xff", long(32)}
	for _, b := range [][2]string{{"", ""}, {"b", ""}, {"", "n"}, {"b", "n"}, {"b", "b\x00"}, {"n", ""}, {"", "\x00"}} {
		var l []api.Cell
		for _, row := range rows[1:] {
			if row >= b[0] && (b[1] == "" || row < b[1]) {
				l = append(l, with(at(row, 1), "v"))
			}
		}
		for _, row := range rows {
			for _, to := range rows {
				what := fmt.Sprintf("%q, %q to %q", b, row, to)
				x := of(t, b[0], b[1], l...)
				if row < b[0] || b[1] != "" && (row > b[1] || to > b[1]) {
					fails(t, what, x, scan(row, to), api.Outside)
					fails(t, what+" of nothing", made(t, b[0], b[1]), scan(row, to), api.Outside)
					continue
				}
				var want []api.Cell
				for _, c := range l {
					if c.K.Row >= row && (to == "" || c.K.Row < to) {
						want = append(want, c)
					}
				}
				does(t, what, x, scan(row, to), sorted(want)...)
				does(t, what+" of nothing", made(t, b[0], b[1]), scan(row, to))
				holds(t, what, x, b[0], b[1], l)
			}
		}
	}
}

// P1002: written out: at the bounds and beyond them.
func TestP1002ScanAtBounds(t *testing.T) {
	b, m := with(at("b", 1), "b"), with(at("m\xff", 1), "m")
	x := of(t, "b", "n", b, m)
	does(t, "to the bounds", x, scan("b", "n"), b, m)
	does(t, "To empty", x, scan("b", ""), b, m)
	does(t, "from to on", x, scan("n", ""))
	does(t, "from to to to", x, scan("n", "n"))
	does(t, "of no row", x, scan("c", "c"))
	does(t, "of one row", x, scan("b", "b\x00"), b)
	does(t, "of the last row", x, scan("m\xff", "m\xff\x00"), m)
	does(t, "To below", x, scan("c", "b"))
	does(t, "To below from", x, scan("c", "a"))
	does(t, "just below the last row", x, scan("b", "m\xff"), b)
	fails(t, "just below from", x, scan("a\xff", "n"), api.Outside)
	fails(t, "from the empty row on", x, scan("", "n"), api.Outside)
	fails(t, "just above to", x, scan("b", "n\x00"), api.Outside)
	fails(t, "a row just above to", x, scan("n\x00", ""), api.Outside)
	fails(t, "a row above to, To below it", x, scan("o", "c"), api.Outside)
	all := of(t, "", "", b, m)
	does(t, "all rows", all, scan("", ""), b, m)
	does(t, "as long as may be", all, scan("", long(32)), b, m)
	does(t, "the greatest row", all, scan("\xff", ""))
}

// P1002: the first MaxScan of them, and whether there are more.
func TestP1002ScanMost(t *testing.T) {
	for count := range 33 {
		l := some(count)
		for from := 0; from <= count; from += 5 {
			for to := from; to <= count; to++ {
				row, end := fmt.Sprintf("b%03d", from), fmt.Sprintf("b%03d", to)
				in := l[from:to]
				want := api.Result{Cells: in[:min(16, len(in))], More: len(in) > 16}
				sameResult(t, fmt.Sprintf("%d to %d of %d", from, to, count), of(t, "", "", l...).Apply(scan(row, end)), want)
			}
		}
	}
}

// P1002: cells that are Gone are not told, and make no more.
func TestP1002ScanGone(t *testing.T) {
	for count := range 33 {
		for every := 1; every <= 5; every++ {
			l := some(count)
			var there []api.Cell
			for i := range l {
				if i%every == every-1 {
					l[i] = gone(l[i].K)
				} else {
					there = append(there, l[i])
				}
			}
			want := api.Result{Cells: there[:min(16, len(there))], More: len(there) > 16}
			sameResult(t, fmt.Sprintf("%d, each %d. Gone", count, every), of(t, "b", "c", l...).Apply(scan("b", "")), want)
		}
	}
	for alive := 15; alive <= 17; alive++ {
		for _, first := range []bool{true, false} {
			l := some(32)
			for i := range l {
				if first && i < 32-alive || !first && i >= alive {
					l[i] = gone(l[i].K)
				}
			}
			there := slices.DeleteFunc(slices.Clone(l), func(c api.Cell) bool { return c.Gone })
			is(t, "how many", len(there), alive)
			want := api.Result{Cells: there[:min(16, alive)], More: alive > 16}
			sameResult(t, fmt.Sprintf("%d are there, those Gone first: %v", alive, first), of(t, "", "", l...).Apply(scan("", "")), want)
		}
	}
}

// P1002: all cells of a row, in the order of keys, whatever their columns and times.
func TestP1002ScanByKeys(t *testing.T) {
	l := []api.Cell{
		with(key("c", "\x00", "", 0), "1"), with(key("c", "a", "", 9), "2"), with(key("c", "a", "", 3), "3"), with(key("c", "a", "\x00", lastTime), "4"), with(key("c", "a", "a", 0), "5"),
		with(key("c", "a\x00", "", 5), "6"), with(key("c", "aa", "", 5), "7"), with(key("c", "\xff", "\xff", 0), "8"), with(key("c\x00", "a", "", 5), "9"), with(key("ca", "a", "", 5), "10"),
	}
	backward := slices.Clone(l)
	slices.Reverse(backward)
	for _, x := range [][]api.Cell{l, backward} {
		does(t, "all", of(t, "", "", x...), scan("", ""), l...)
		does(t, "of c", of(t, "", "", x...), scan("c", "c\x00"), l[:8]...)
		does(t, "behind c", of(t, "", "", x...), scan("c\x00", ""), l[8:]...)
		sameCells(t, "Cells", of(t, "", "", x...).Cells(), l)
	}
}
