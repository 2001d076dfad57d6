package tablet_test

import (
	"fmt"
	"math/rand"
	"slices"
	"strings"
	"testing"

	"bulwark/api"
	"bulwark/tablet"
)

// bounds: that are some, among them the longest and those nearest to one another.
func bounds() [][2]string {
	return [][2]string{
		{"", ""}, {"a", ""}, {"", "a"}, {"a", "n"}, {"", "\x00"}, {"\x00", "\x00\x00"}, {"a", "a\x00"}, {"a", "aa"},
		{"\x7f", "\x80"}, {"a", "\xff"}, {"\xff", ""}, {"\xff", "\xff\x00"}, {"ab", "b"}, {"Z", "a"}, {"a", "\u00e9"},
		{long(32), ""}, {"", long(32)}, {long(31), long(32)}, {long(31) + "a", long(32)}, {strings.Repeat("\u00e9", 16), ""},
	}
}

// noBounds: each with one thing wrong at least.
func noBounds() [][2]string {
	return [][2]string{
		{"a", "a"}, {"b", "a"}, {"aa", "a"}, {"a\x00", "a"}, {"\x80", "\x7f"}, {"\xff", "a"}, {"a", "Z"}, {"\x00", "\x00"},
		{long(32), long(32)}, {long(32), long(31)}, {"\u00e9", "z"},
		{long(33), ""}, {"", long(33)}, {long(33), "z"}, {"a", long(33)}, {long(33), long(33)}, {long(33), long(34)}, {long(32), long(33)},
		{long(1 << 16), ""}, {"", long(1 << 16)}, {strings.Repeat("\u00e9", 17), ""}, {"z", long(33)},
	}
}

func TestP1001New(t *testing.T) {
	for _, b := range bounds() {
		holds(t, fmt.Sprintf("%q", b), made(t, b[0], b[1]), b[0], b[1], nil)
	}
}

func TestP1001NoBounds(t *testing.T) {
	for _, b := range noBounds() {
		what := fmt.Sprintf("%q", b)
		x, kind := tablet.New(b[0], b[1])
		is(t, what, kind, api.BadArg)
		is(t, what+": the tablet", x, nil)
		notOf(t, what+" of nothing", b[0], b[1], nil, api.BadArg)
		notOf(t, what+" of cells", b[0], b[1], some(3), api.BadArg)
	}
}

// P1001: whatever else is wrong, New's kind is told first.
func TestP1001BoundsFirst(t *testing.T) {
	for name, wrong := range wrongCells() {
		notOf(t, name, "n", "a", wrong.cells, api.BadArg)
		notOf(t, name, "a", long(33), wrong.cells, api.BadArg)
	}
}

func TestP1001OfNothing(t *testing.T) {
	for _, b := range bounds() {
		for _, l := range [][]api.Cell{nil, {}, make([]api.Cell, 0, 3)} {
			holds(t, fmt.Sprintf("%q", b), of(t, b[0], b[1], l...), b[0], b[1], nil)
		}
	}
}

func TestP1001Of(t *testing.T) {
	lists := map[string][]api.Cell{
		"one":                   {with(at("b", 1), "v")},
		"an empty value":        {with(at("b", 1), "")},
		"no value":              {{K: at("b", 1)}},
		"gone":                  {gone(at("b", 1))},
		"gone, an empty value":  {{K: at("b", 1), Value: []byte{}, Gone: true}},
		"gone and not":          {gone(at("b", 1)), with(at("b", 2), "v"), gone(at("b", 3))},
		"the largest value":     {with(at("b", 1), long(256))},
		"the longest names":     {with(key("b"+long(31), long(32), long(32), lastTime), "v")},
		"zeros":                 {with(key("b\x00", "\x00", "\x00", 0), "\x00"), with(key("b", "\x00\x00", "", 0), "\x00\x01")},
		"falling":               {with(at("c", 1), "1"), with(at("b", 1), "2"), with(at("b", 2), "3")},
		"columns that are near": {with(key("b", "c", "", 1), "1"), with(key("b", "", "", 1), ""), with(key("bc", "d", "", 1), "2"), with(key("b", "cd", "", 1), "3"), with(key("b", "c", "d", 1), "4")},
		"versions":              versions("b", 0, 4),
		"versions at the end":   versions("b", lastTime-3, 4),
		"all":                   some(32),
		"all but one":           some(31),
		"eight full columns":    slices.Concat(versions("b", 0, 4), versions("b\x00", 0, 4), versions("b\x00\x00", 1, 4), versions("ba", 2, 4), versions("bb", 3, 4), versions("c", 4, 4), versions("d", 5, 4), versions("e", 6, 4)),
	}
	lists["columns that are near"][1].K.Family = "\x00"
	for name, l := range lists {
		for _, b := range [][2]string{{"", ""}, {"b", ""}, {"b", "f"}, {"", "f"}, {"a", "z"}} {
			holds(t, name, of(t, b[0], b[1], l...), b[0], b[1], l)
			slices.Reverse(l)
			holds(t, name+", from behind", of(t, b[0], b[1], l...), b[0], b[1], l)
		}
	}
}

// P1001: four cells of a column, in each mix of those that are gone, are not too many.
func TestP1001VersionsGone(t *testing.T) {
	for mix := range 1 << 5 {
		l := versions("b", 10, 5)
		for i := range l {
			if mix>>i&1 == 1 {
				l[i] = gone(l[i].K)
			}
		}
		holds(t, fmt.Sprint("four, mix ", mix), of(t, "", "", l[:4]...), "", "", l[:4])
		notOf(t, fmt.Sprint("five, mix ", mix), "", "", l, api.TooLarge)
	}
}

// P1001: which rows are a tablet's.
func TestP1001Rows(t *testing.T) {
	rows := []string{"\x00", "a", "a\xff", "az", "b", "b\x00", "ba", "c", "m", "m\xff", "mz", "n", "n\x00", "na", "z", "\x80", "\xff", "\xff\xff", long(31), long(32), strings.Repeat("\xff", 32)}
	for _, b := range append(bounds(), [2]string{"b", "n"}, [2]string{"b", "b\x00"}, [2]string{"m\xff", "n\x00"}) {
		for _, row := range rows {
			what := fmt.Sprintf("%q, row %q", b, row)
			l := []api.Cell{with(at(row, 1), "v")}
			if row >= b[0] && (row < b[1] || b[1] == "") {
				holds(t, what, of(t, b[0], b[1], l...), b[0], b[1], l)
			} else {
				notOf(t, what, b[0], b[1], l, api.Outside)
			}
		}
	}
}

// wrongCells: of a tablet from b to n, lists in which one thing is wrong; the place tells how early the chapter names it.
func wrongCells() map[string]struct {
	place int
	cells []api.Cell
	want  api.Kind
} {
	type wrong = struct {
		place int
		cells []api.Cell
		want  api.Kind
	}
	one := func(place int, want api.Kind, l ...api.Cell) wrong { return wrong{place, l, want} }
	full := some(33)
	return map[string]wrong{
		"no key":                  one(1, api.BadKey, api.Cell{}),
		"no row":                  one(1, api.BadKey, with(key("", "f", "q", 1), "v")),
		"no family":               one(1, api.BadKey, with(key("c", "", "q", 1), "v")),
		"a row too long":          one(1, api.BadKey, with(at("c"+long(32), 1), "v")),
		"a family too long":       one(1, api.BadKey, with(key("c", long(33), "q", 1), "v")),
		"a qual too long":         one(1, api.BadKey, with(key("c", "f", long(33), 1), "v")),
		"a row below":             one(2, api.Outside, with(at("a\xff", 1), "v")),
		"a row at to":             one(2, api.Outside, with(at("n", 1), "v")),
		"a row above to":          one(2, api.Outside, with(at("o", 1), "v")),
		"a value too long":        one(3, api.BadArg, with(at("d", 1), long(257))),
		"a value far too long":    one(3, api.BadArg, with(at("d", 2), long(1<<16))),
		"gone with a value":       one(3, api.BadArg, api.Cell{K: at("d", 3), Value: []byte{0}, Gone: true}),
		"gone, a value too long":  one(3, api.BadArg, api.Cell{K: at("d", 4), Value: []byte(long(257)), Gone: true}),
		"one key twice":           one(3, api.BadArg, with(at("e", 1), "v"), with(at("e", 1), "w")),
		"one cell twice":          one(3, api.BadArg, with(at("e", 2), "v"), with(at("e", 2), "v")),
		"one key, gone and not":   one(3, api.BadArg, gone(at("e", 3)), with(at("e", 3), "v")),
		"five versions":           one(4, api.TooLarge, versions("g", 1, 5)...),
		"six versions, some gone": one(4, api.TooLarge, append(versions("h", 1, 4), gone(at("h", 9)), gone(at("h", 0)))...),
		"33 cells":                one(5, api.Full, full...),
	}
}

func TestP1001EachWrong(t *testing.T) {
	for name, wrong := range wrongCells() {
		notOf(t, name, "b", "n", wrong.cells, wrong.want)
		good := versions("c", 1, 3)
		notOf(t, name+", ahead of others", "b", "n", slices.Concat(wrong.cells, good), wrong.want)
		notOf(t, name+", behind others", "b", "n", slices.Concat(good, wrong.cells), wrong.want)
		notOf(t, name+", among others", "b", "n", slices.Concat(good[:1], wrong.cells, good[1:]), wrong.want)
	}
}

// P1001: of each two the one that the chapter names first is told, whichever stands first.
func TestP1001EachTwoWrong(t *testing.T) {
	for name, one := range wrongCells() {
		for other, two := range wrongCells() {
			want := one.want
			if two.place < one.place {
				want = two.want
			}
			if name == other && one.place > 3 {
				want = api.BadArg // their cells come twice
			}
			notOf(t, name+", "+other, "b", "n", slices.Concat(one.cells, two.cells), want)
		}
	}
}

// P1001: any of them at once, in any order.
func TestP1001SeveralWrong(t *testing.T) {
	r := rand.New(rand.NewSource(1001))
	all := wrongCells()
	var names []string
	for name := range all {
		names = append(names, name)
	}
	slices.Sort(names)
	for range 2000 {
		first := 9
		want := api.OK
		var l []api.Cell
		for _, i := range r.Perm(len(names))[:2+r.Intn(5)] {
			x := all[names[i]]
			l = append(l, x.cells...)
			if x.place < first {
				first, want = x.place, x.want
			}
		}
		r.Shuffle(len(l), func(i, j int) { l[i], l[j] = l[j], l[i] })
		notOf(t, "several", "b", "n", l, want)
	}
}

// P1001: too many of a column are told ahead of too many in all; of columns that are as large as may be too many in all.
func TestP1001TooLargeAndFull(t *testing.T) {
	var l []api.Cell
	for i := range 9 {
		l = append(l, versions(fmt.Sprint("b", i), 5, 4)...)
	}
	notOf(t, "36 in full columns", "", "", l, api.Full)
	notOf(t, "33 in full columns", "", "", l[:33], api.Full)
	holds(t, "32 in full columns", of(t, "", "", l[:32]...), "", "", l[:32])
	notOf(t, "five of a column among 37", "", "", append(l, with(at("b4", 1), "v")), api.TooLarge)
	notOf(t, "five of the last column", "", "", append(l[:31:31], versions("z", 1, 5)...), api.TooLarge)
	notOf(t, "many", "", "", some(5000), api.Full)
	notOf(t, "many of one column", "", "", versions("b", 1, 5000), api.TooLarge)
}

// P1001: cells that are alike but for one part of their keys are of columns of their own, or of times of their own.
func TestP1001NearKeys(t *testing.T) {
	k := key("b", "f", "q", 5)
	var l []api.Cell
	for _, other := range []api.Key{key("b\x00", "f", "q", 5), key("b", "f\x00", "q", 5), key("b", "f", "q\x00", 5), key("b", "f", "", 5), key("bf", "q", "", 5), key("b", "fq", "", 5)} {
		for time := range uint64(4) {
			other.Time = time
			l = append(l, with(other, "v"))
		}
	}
	for time := range uint64(4) {
		k.Time = time
		l = append(l, with(k, "v"))
	}
	holds(t, "near", of(t, "", "", l...), "", "", l)
	notOf(t, "one more", "", "", append(l, with(key("b", "f", "", 9), "v")), api.TooLarge)
}

// P1001 with rule 4: what is handed in is neither changed nor kept.
func TestP1001OfKeepsNothing(t *testing.T) {
	want := slices.Concat(versions("b", 1, 4), []api.Cell{gone(at("c", 1)), with(at("d", 1), "")}, some(20))
	l := roomyCells(want)
	before := dumpCells(l)
	x := of(t, "", "", l...)
	y, kind := tablet.Of("", "", l)
	is(t, "Of", kind, api.OK)
	is(t, "handed in", dumpCells(l), before)
	y.Apply(put(at("b", 3), "another"))
	y.Apply(delRow("d"))
	is(t, "handed in, behind a change", dumpCells(l), before)
	spoilCells(l)
	holds(t, "behind it", x, "", "", want)

	l = roomyCells(append(some(33), want...))
	before = dumpCells(l)
	notOf(t, "too many", "", "", l, api.BadArg)
	is(t, "handed in, with an error", dumpCells(l), before)
}
