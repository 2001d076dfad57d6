package tablet_test

import (
	"fmt"
	"math"
	"slices"
	"testing"

	"bulwark/api"
)

// rightOps: of each Kind, in rows of a tablet from b to n.
func rightOps() []api.Op {
	k := key("c", "f", "q", 3)
	return []api.Op{
		put(k, "v"), put(at("b", 0), ""), put(at("m\xff", lastTime), long(256)), delCell(k), delColumn(k), delRow("c"), get(k),
		putIf(k, "w", "v"), putIf(k, "", ""), putNew(k, "v"), batch("c", put(k, "v")), batch("c", delRow("c"), delCell(k), delColumn(k)),
		scan("b", "n"), scan("b", ""), scan("c", "d"), scan("n", "n"),
	}
}

// wrongOps: that chapter 6 does not take, in rows of a tablet from b to n and outside it.
func wrongOps() []api.Op {
	k := key("c", "f", "q", 3)
	out := []api.Op{
		{}, put(api.Key{}, "v"), put(key("c", "", "q", 3), "v"), put(at("", 3), "v"), put(at(long(33), 3), "v"), put(k, long(257)), delCell(key("c", "", "", 3)),
		{Kind: api.DelColumn, K: k}, {Kind: api.Get, K: k}, {Kind: api.DelRow, K: k}, {Kind: api.DelRow}, {Kind: api.Scan, K: k},
		{Kind: api.CheckPut, K: k, Want: []byte("w")}, putIf(k, long(257), "v"), putIf(k, "w", long(257)), {Kind: api.Put, K: k, To: "d"}, {Kind: api.Put, K: k, Has: true},
		{Kind: api.Put, K: k, Sub: []api.Op{put(k, "v")}}, {Kind: api.Get, K: key("c", "f", "q", 0), Value: []byte("v")}, scan(long(33), ""), scan("c", long(33)),
		batch("c"), batch("", put(k, "v")), batch("d", put(k, "v")), batch("c", get(k)), batch("c", scan("c", "")), batch("c", putNew(k, "v")), batch("c", batch("c", put(k, "v"))),
		batch("c", slices.Repeat([]api.Op{put(k, "v")}, 9)...), batch("c", put(k, "v"), put(at("d", 1), "v")), batch("c", put(k, "v"), put(k, long(257))),
		put(key("a", "", "", 1), "v"), put(at("z", 1), long(257)), {Kind: api.Scan, K: at("z", 1)}, scan("a", long(33)), scan("z", long(33)), {Kind: api.DelRow, K: at("a", 0)}, batch("z"),
	}
	for _, kind := range []int{0, -1, 9, 10, 255, 256 + api.Put, 1<<32 + api.Put, math.MaxInt, math.MinInt, -api.Put} {
		out = append(out, api.Op{Kind: kind, K: k}, api.Op{Kind: kind, K: api.Key{Row: "c"}}, api.Op{Kind: kind}, api.Op{Kind: kind, K: at("z", 1)})
	}
	return out
}

// P1002: the chapter's example.
func TestP1002Example(t *testing.T) {
	x := made(t, "", "")
	k := key("row", "family", "qual", 7)
	does(t, "Put", x, put(k, "value"))
	does(t, "Get", x, get(k), with(k, "value"))
	holds(t, "behind it", x, "", "", []api.Cell{with(k, "value")})
}

func TestP1002BadOp(t *testing.T) {
	for _, o := range wrongOps() {
		fails(t, fmt.Sprintf("%+v", o), of(t, "b", "n"), o, api.BadOp)
		fails(t, fmt.Sprintf("of cells %+v", o), of(t, "b", "n", versions("c", 1, 4)...), o, api.BadOp)
		fails(t, fmt.Sprintf("of many %+v", o), of(t, "b", "n", some(32)...), o, api.BadOp)
	}
}

// P1002: a part of a batch that holds itself ends nowhere, and is no operation.
func TestP1002BatchInItself(t *testing.T) {
	parts := []api.Op{{Kind: api.Batch, K: api.Key{Row: "c"}}}
	parts[0].Sub = parts
	fails(t, "itself", of(t, "b", "n"), parts[0], api.BadOp)
}

// P1002: of all but a Scan.
func TestP1002Outside(t *testing.T) {
	rows := []string{"\x00", "a", "a\xff", "b", "b\x00", "c", "m", "m\xff", "n", "n\x00", "z", "\xff", long(32)}
	for _, b := range [][2]string{{"", ""}, {"b", ""}, {"", "n"}, {"b", "n"}, {"b", "b\x00"}, {"a\xff", "n\x00"}} {
		for _, row := range rows {
			k := at(row, 1)
			inside := row >= b[0] && (b[1] == "" || row < b[1])
			what := fmt.Sprintf("%q, row %q", b, row)
			for _, o := range []api.Op{put(k, "v"), delCell(k), delColumn(k), delRow(row), get(k), putNew(k, "v"), putIf(k, "v", "v"), batch(row, put(k, "v")), batch(row, delRow(row))} {
				if !inside {
					fails(t, what, made(t, b[0], b[1]), o, api.Outside)
					continue
				}
				x := of(t, b[0], b[1], with(at(row, 0), "v"))
				is(t, what, x.Apply(o).E != api.Outside, true)
			}
			if inside {
				x := made(t, b[0], b[1])
				does(t, what, x, put(k, "v"))
				does(t, what, x, get(k), with(k, "v"))
			}
		}
	}
}

func TestP1002Put(t *testing.T) {
	x := made(t, "b", "n")
	does(t, "new", x, put(at("c", 2), "two"))
	holds(t, "new", x, "b", "n", []api.Cell{with(at("c", 2), "two")})
	does(t, "elder", x, put(at("c", 1), ""))
	does(t, "newer", x, put(at("c", 3), long(256)))
	holds(t, "three", x, "b", "n", []api.Cell{with(at("c", 1), ""), with(at("c", 2), "two"), with(at("c", 3), long(256))})
	does(t, "there", x, put(at("c", 2), "other"))
	does(t, "there, to nothing", x, api.Op{Kind: api.Put, K: at("c", 3)})
	does(t, "another column", x, put(key("c", "f", "q", 2), "q"))
	holds(t, "four", x, "b", "n", []api.Cell{with(at("c", 1), ""), with(at("c", 2), "other"), with(at("c", 3), ""), with(key("c", "f", "q", 2), "q")})
}

// P1002: a cell that is Gone is there again, once it is put.
func TestP1002PutOfGone(t *testing.T) {
	x := of(t, "", "", gone(at("c", 2)), with(at("c", 1), "one"))
	does(t, "Put", x, put(at("c", 2), "again"))
	holds(t, "Put", x, "", "", []api.Cell{with(at("c", 2), "again"), with(at("c", 1), "one")})
}

// P1002: of a column of MaxVersions the one of the least Time goes, be it the one that was put; those that are Gone count as others do.
func TestP1002PutInAFullColumn(t *testing.T) {
	for mix := range 1 << 4 {
		l := []api.Cell{with(at("c", 20), "20"), with(at("c", 30), "30"), with(at("c", 40), "40"), with(at("c", 50), "50")}
		for i := range l {
			if mix>>i&1 == 1 {
				l[i] = gone(l[i].K)
			}
		}
		others := []api.Cell{with(at("b", 1), "b"), with(key("c", "f", "q", 1), "q"), with(key("c", "e", "", 1), "e"), with(at("d", 0), "d")}
		for _, time := range []uint64{0, 10, 19, 20, 21, 25, 30, 35, 40, 45, 49, 50, 51, 60, lastTime} {
			x := of(t, "b", "n", slices.Concat(l, others)...)
			does(t, "Put", x, put(at("c", time), "new"))
			want := slices.DeleteFunc(slices.Clone(l), func(c api.Cell) bool { return c.K.Time == time })
			want = sorted(append(want, with(at("c", time), "new")))[:4]
			holds(t, fmt.Sprintf("at %d, mix %d", time, mix), x, "b", "n", slices.Concat(want, others))
		}
	}
}

// P1002: a new key in a full tablet, by how many cells its column has.
func TestP1002PutInAFullTablet(t *testing.T) {
	for column := range 5 {
		for _, row := range []string{"b", "c", "z"} {
			l := append(some(32-column), versions(row, 10, column)...)
			what := fmt.Sprintf("%d of row %s", column, row)
			for _, time := range []uint64{0, 9, 14, lastTime} {
				x := of(t, "", "", l...)
				if column < 4 {
					fails(t, what, x, put(at(row, time), "new"), api.Full)
					fails(t, what+", checked", x, putNew(at("zz", time), "new"), api.Full)
					fails(t, what+", in a batch", x, batch(row, put(at(row, time), "new")), api.Full)
					continue
				}
				does(t, what, x, put(at(row, time), "new"))
				kept := sorted(append(versions(row, 10, 4), with(at(row, time), "new")))[:4]
				holds(t, what, x, "", "", append(some(28), kept...))
			}
			for _, c := range l {
				x := of(t, "", "", l...)
				does(t, what+", there", x, put(c.K, "changed"))
				want := slices.DeleteFunc(slices.Clone(l), func(o api.Cell) bool { return o.K == c.K })
				holds(t, what+", there", x, "", "", append(want, with(c.K, "changed")))
			}
		}
	}
}

// P1002: a full column in a full tablet of one row, be it the first by keys, the last, or among others.
func TestP1002PutInAFullRow(t *testing.T) {
	for place := range 8 {
		var others, column []api.Cell
		for i := range 8 {
			for time := range uint64(4) {
				c := with(key("c", fmt.Sprint("f", i), "", 10+time), "v")
				if i == place {
					column = append(column, c)
				} else {
					others = append(others, c)
				}
			}
		}
		for _, time := range []uint64{0, 9, 11, 14, lastTime} {
			x := of(t, "", "", slices.Concat(others, column)...)
			k := key("c", fmt.Sprint("f", place), "", time)
			does(t, "Put", x, put(k, "new"))
			want := slices.DeleteFunc(slices.Clone(column), func(c api.Cell) bool { return c.K == k })
			want = sorted(append(want, with(k, "new")))[:4]
			holds(t, fmt.Sprintf("column %d at %d", place, time), x, "", "", slices.Concat(others, want))
		}
	}
}

// P1002: the last cell that there is room for, and the room that others leave.
func TestP1002PutTillFull(t *testing.T) {
	x := made(t, "b", "n")
	for _, c := range some(32) {
		does(t, "Put", x, put(c.K, string(c.Value)))
	}
	holds(t, "full", x, "b", "n", some(32))
	fails(t, "one more", x, put(at("d", 1), "v"), api.Full)
	does(t, "DelCell", x, delCell(some(1)[0].K))
	fails(t, "a cell that is Gone leaves no room", x, put(at("d", 1), "v"), api.Full)
	does(t, "DelRow", x, delRow("b000"))
	does(t, "room", x, put(at("d", 1), "v"))
	holds(t, "full again", x, "b", "n", append(some(32)[1:], with(at("d", 1), "v")))
	fails(t, "and no more", x, put(at("d", 2), "v"), api.Full)
	does(t, "one that was Gone", of(t, "", "", append(some(31), gone(at("d", 1)))...), put(at("d", 1), "v"))
}

func TestP1002DelCell(t *testing.T) {
	l := []api.Cell{with(at("c", 1), "one"), with(at("c", 2), "two"), with(at("c", 3), ""), gone(at("c", 4)), with(key("c", "f", "q", 1), "q")}
	x := of(t, "b", "n", l...)
	fails(t, "none of that time", x, delCell(at("c", 5)), api.Missing)
	fails(t, "none of that column", x, delCell(key("c", "f", "r", 1)), api.Missing)
	fails(t, "none of that row", x, delCell(at("b", 1)), api.Missing)
	fails(t, "Gone", x, delCell(at("c", 4)), api.Missing)
	fails(t, "of nothing", made(t, "", ""), delCell(at("c", 4)), api.Missing)
	for _, i := range []int{1, 0, 2, 4} {
		does(t, "DelCell", x, delCell(l[i].K))
		l[i] = gone(l[i].K)
		holds(t, fmt.Sprint("behind ", i), x, "b", "n", l)
		fails(t, "again", x, delCell(l[i].K), api.Missing)
	}
	does(t, "in a full tablet", of(t, "", "", some(32)...), delCell(some(4)[3].K))
}

func TestP1002DelColumn(t *testing.T) {
	c, gs := versions("c", 1, 4), []api.Cell{gone(at("d", 1)), gone(at("d", 2))}
	others := []api.Cell{with(key("c", "f", "q", 1), "1"), with(key("c", "e", "", 2), "2"), with(key("c", "f", "\x00", 2), "3"), with(at("c\x00", 1), "4"), with(at("b", 1), "5"), with(key("c", "ff", "", 1), "6")}
	x := of(t, "", "", slices.Concat(c, gs, others)...)
	fails(t, "none of that qual", x, delColumn(key("c", "f", "r", 0)), api.Missing)
	fails(t, "none of that family", x, delColumn(key("c", "g", "", 0)), api.Missing)
	fails(t, "none of that row", x, delColumn(at("e", 0)), api.Missing)
	fails(t, "of nothing", made(t, "", ""), delColumn(at("c", 0)), api.Missing)
	does(t, "of four", x, delColumn(at("c", 0)))
	holds(t, "of four", x, "", "", slices.Concat(gs, others))
	fails(t, "again", x, delColumn(at("c", 0)), api.Missing)
	does(t, "of those that are Gone", x, delColumn(at("d", 0)))
	holds(t, "of those that are Gone", x, "", "", others)
	for i, o := range others {
		does(t, "of one", x, delColumn(o.K))
		holds(t, "of one", x, "", "", others[i+1:])
	}
}

func TestP1002DelRow(t *testing.T) {
	c := slices.Concat(versions("c", 1, 4), []api.Cell{with(key("c", "f", "q", 1), "1"), with(key("c", "\xff", "\xff", 0), "2"), gone(key("c", "\x00", "", lastTime))})
	others := []api.Cell{with(at("b\xff", 1), "1"), with(at("c\x00", 1), "2"), with(at("cc", 1), "3"), gone(at("d", 1)), with(at(long(32), 1), "4")}
	x := of(t, "", "", slices.Concat(c, others)...)
	fails(t, "none of that row", x, delRow("e"), api.Missing)
	fails(t, "the beginning of others", x, delRow("b"), api.Missing)
	fails(t, "of nothing", made(t, "", ""), delRow("c"), api.Missing)
	does(t, "of some", x, delRow("c"))
	holds(t, "of some", x, "", "", others)
	fails(t, "again", x, delRow("c"), api.Missing)
	for i, o := range others {
		does(t, "of one", x, delRow(o.K.Row))
		holds(t, "of one", x, "", "", others[i+1:])
	}
}

func TestP1002Get(t *testing.T) {
	l := slices.Concat(versions("c", 1, 3), []api.Cell{with(key("c", "f", "q", 9), "q"), with(at("d", 1), "")}, []api.Cell{gone(at("e", 5)), with(at("e", 4), "elder")}, []api.Cell{with(at("g", 5), "newer"), gone(at("g", 4))}, []api.Cell{gone(at("h", 1))}, []api.Cell{with(at("i", 0), "0"), with(at("j", lastTime), "last"), with(at("j", 0), "first")})
	x := of(t, "b", "n", l...)
	does(t, "the newest", x, get(at("c", 0)), with(at("c", 3), "at 3"))
	does(t, "another column", x, get(key("c", "f", "q", 0)), with(key("c", "f", "q", 9), "q"))
	does(t, "an empty value", x, get(at("d", 0)), with(at("d", 1), ""))
	does(t, "one that is Gone below it", x, get(at("g", 0)), with(at("g", 5), "newer"))
	does(t, "the first time", x, get(at("i", 0)), with(at("i", 0), "0"))
	does(t, "the last time", x, get(at("j", 0)), with(at("j", lastTime), "last"))
	fails(t, "the newest is Gone", x, get(at("e", 0)), api.Missing)
	fails(t, "all are Gone", x, get(at("h", 0)), api.Missing)
	fails(t, "none of that row", x, get(at("b", 0)), api.Missing)
	fails(t, "none of that qual", x, get(key("c", "f", "r", 0)), api.Missing)
	fails(t, "none of that family", x, get(key("c", "g", "", 0)), api.Missing)
	fails(t, "of nothing", made(t, "", ""), get(at("c", 0)), api.Missing)
	holds(t, "behind all", x, "b", "n", l)
}

// P1002: what a column has, what a CheckPut asks for, and whether it is put; at times above, below and at those that are there.
func TestP1002CheckPut(t *testing.T) {
	columns := map[string]struct {
		cells []api.Cell
		told  bool
		value string
	}{
		"nothing":                {nil, false, ""},
		"a value":                {[]api.Cell{with(at("c", 5), "x")}, true, "x"},
		"an empty value":         {[]api.Cell{with(at("c", 5), "")}, true, ""},
		"an elder one":           {[]api.Cell{with(at("c", 5), "x"), with(at("c", 4), "y")}, true, "x"},
		"Gone":                   {[]api.Cell{gone(at("c", 5))}, false, ""},
		"Gone, an elder one":     {[]api.Cell{gone(at("c", 5)), with(at("c", 4), "x")}, false, ""},
		"an elder one Gone":      {[]api.Cell{with(at("c", 5), "x"), gone(at("c", 4))}, true, "x"},
		"of a full column":       {[]api.Cell{with(at("c", 5), "x"), with(at("c", 4), "y"), with(at("c", 3), ""), gone(at("c", 2))}, true, "x"},
		"Gone of a full column":  {[]api.Cell{gone(at("c", 5)), with(at("c", 4), "x"), with(at("c", 3), "y"), with(at("c", 2), "")}, false, ""},
		"as long as may be":      {[]api.Cell{with(at("c", 5), long(256))}, true, long(256)},
		"of other columns alone": {[]api.Cell{with(key("c", "f", "q", 5), "x"), with(at("d", 5), "x"), with(key("c", "e", "", 5), "x")}, false, ""},
	}
	for name, c := range columns {
		for _, time := range []uint64{0, 1, 2, 4, 5, 6, lastTime} {
			for _, want := range []string{"", "x", "y", "xx", "\x00", long(256)} {
				checkPut(t, fmt.Sprintf("%s at %d, Has %q", name, time, want), c.cells, putIf(at("c", time), want, "new"), c.told && c.value == want)
			}
			checkPut(t, fmt.Sprintf("%s at %d, without Has", name, time), c.cells, putNew(at("c", time), "new"), !c.told)
		}
	}
}

func checkPut(t *testing.T, what string, l []api.Cell, o api.Op, done bool) {
	t.Helper()
	x := of(t, "b", "n", l...)
	if !done {
		fails(t, what, x, o, api.Refused)
		return
	}
	does(t, what, x, o)
	m := &model{"b", "n", l}
	m.apply(put(o.K, string(o.Value)))
	holds(t, what, x, "b", "n", m.cells)
}

// P1002: that it is refused is told ahead of Full.
func TestP1002CheckPutFull(t *testing.T) {
	x := of(t, "", "", some(32)...)
	fails(t, "refused", x, putNew(at("b000", 9), "v"), api.Refused)
	fails(t, "refused with Has", x, putIf(at("zz", 9), "", "v"), api.Refused)
	fails(t, "full", x, putNew(at("zz", 9), "v"), api.Full)
	fails(t, "full with Has", x, putIf(at("b000", 9), "value 0", "v"), api.Full)
	does(t, "there", x, putIf(at("b000", 0), "value 0", "v"))
}
