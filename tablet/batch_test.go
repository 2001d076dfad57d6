package tablet_test

import (
	"fmt"
	"slices"
	"testing"

	"bulwark/api"
)

func TestP1002Batch(t *testing.T) {
	l := append(versions("c", 1, 4), with(at("d", 1), "d"))
	x := of(t, "b", "n", l...)
	does(t, "one", x, batch("c", put(key("c", "f", "q", 1), "q")))
	holds(t, "one", x, "b", "n", append(slices.Clone(l), with(key("c", "f", "q", 1), "q")))
	does(t, "in order", x, batch("c", put(at("c", 9), "first"), put(at("c", 9), "second")))
	does(t, "the last counts", x, get(at("c", 0)), with(at("c", 9), "second"))
	does(t, "put what was taken", x, batch("c", delRow("c"), put(at("c", 1), "only"), delCell(at("c", 1)), put(at("c", 2), "two")))
	holds(t, "put what was taken", x, "b", "n", []api.Cell{gone(at("c", 1)), with(at("c", 2), "two"), with(at("d", 1), "d")})
	does(t, "nothing is left", x, batch("c", delColumn(at("c", 0))))
	holds(t, "nothing is left", x, "b", "n", []api.Cell{with(at("d", 1), "d")})
	does(t, "put and taken", x, batch("c", put(at("c", 1), "v"), delRow("c")))
	holds(t, "put and taken", x, "b", "n", []api.Cell{with(at("d", 1), "d")})
}

func TestP1002BatchOfMost(t *testing.T) {
	x := made(t, "", "")
	var parts []api.Op
	for time := range uint64(8) {
		parts = append(parts, put(at("c", time), fmt.Sprint("at ", time)))
	}
	does(t, "eight", x, batch("c", parts...))
	holds(t, "eight", x, "", "", versions("c", 4, 4))
	slices.Reverse(parts)
	y := made(t, "", "")
	does(t, "eight, from behind", y, batch("c", parts...))
	holds(t, "eight, from behind", y, "", "", versions("c", 4, 4))
	fails(t, "nine", y, batch("c", append(parts, put(at("c", 9), "v"))...), api.BadOp)
}

// P1002: a part that fails, at each place of batches of each size.
func TestP1002BatchFails(t *testing.T) {
	l := slices.Concat(versions("c", 1, 4), []api.Cell{gone(key("c", "f", "gone", 1))}, some(20))
	for size := 1; size <= 8; size++ {
		for place := range size {
			for _, o := range []api.Op{delCell(key("c", "x", "", 1)), delColumn(key("c", "x", "", 0)), delCell(key("c", "f", "gone", 1))} {
				var parts []api.Op
				for i := range size {
					parts = append(parts, put(at("c", uint64(10+i)), "new"))
				}
				parts[place] = o
				fails(t, fmt.Sprintf("%d of %d: %+v", place, size, o), of(t, "", "", l...), batch("c", parts...), api.Missing)
			}
		}
	}
}

// P1002: what comes ahead of the part that fails is as if it were not done.
func TestP1002BatchTakesBack(t *testing.T) {
	l := append(versions("c", 1, 4), with(key("c", "f", "q", 1), "q"))
	ahead := map[string][]api.Op{
		"put":             {put(at("c", 9), "new")},
		"changed":         {put(at("c", 4), "changed")},
		"gone":            {delCell(at("c", 4))},
		"column taken":    {delColumn(at("c", 0))},
		"row taken":       {delRow("c")},
		"taken and put":   {delRow("c"), put(at("c", 4), "at 4")},
		"all kinds":       {put(at("c", 9), "new"), delCell(at("c", 9)), delColumn(at("c", 0)), put(key("c", "g", "", 1), "g"), delRow("c")},
		"nothing is left": {delColumn(at("c", 0)), delColumn(key("c", "f", "q", 0))},
	}
	for name, parts := range ahead {
		last := delCell(key("c", "x", "", 1))
		fails(t, name, of(t, "", "", l...), batch("c", append(parts, last)...), api.Missing)
		fails(t, name+", in the middle", of(t, "", "", l...), batch("c", append(append(slices.Clone(parts), last), put(at("c", 8), "behind"))...), api.Missing)
	}
	fails(t, "twice", of(t, "", "", l...), batch("c", delRow("c"), delRow("c")), api.Missing)
	fails(t, "a cell that a part made Gone", of(t, "", "", l...), batch("c", delCell(at("c", 1)), delCell(at("c", 1))), api.Missing)
	fails(t, "a cell that a part pushed out", of(t, "", "", l...), batch("c", put(at("c", 9), "new"), delCell(at("c", 1))), api.Missing)
}

// P1002: Full by parts, and room that parts make.
func TestP1002BatchFull(t *testing.T) {
	l := append(some(29), versions("c", 1, 2)...)
	one, two := put(key("c", "g", "", 1), "one"), put(key("c", "g", "", 2), "two")
	fails(t, "the second one", of(t, "", "", l...), batch("c", one, two), api.Full)
	fails(t, "the last one", of(t, "", "", l...), batch("c", one, put(at("c", 1), "there"), two), api.Full)
	fails(t, "full ahead of missing", of(t, "", "", l...), batch("c", one, two, delCell(at("c", 7))), api.Full)
	fails(t, "missing ahead of full", of(t, "", "", l...), batch("c", delCell(at("c", 7)), one, two), api.Missing)
	x := of(t, "", "", l...)
	does(t, "room is made", x, batch("c", delColumn(at("c", 0)), one, two, put(at("c", 8), "three")))
	holds(t, "room is made", x, "", "", append(some(29), with(one.K, "one"), with(two.K, "two"), with(at("c", 8), "three")))
	fails(t, "Gone makes no room", x, batch("c", delCell(one.K), put(at("c", 9), "more")), api.Full)
}
