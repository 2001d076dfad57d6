package tablet_test

import (
	"bytes"
	"fmt"
	"math/rand"
	"slices"
	"testing"

	"bulwark/api"
	"bulwark/tablet"
)

// P1003: roots of each bounds, by the library's sum of their forms.
func TestP1003Root(t *testing.T) {
	for _, b := range bounds() {
		same(t, fmt.Sprintf("%q", b), made(t, b[0], b[1]).Root(), rootOf(t, b[0], b[1], nil))
	}
	l := []api.Cell{with(at("b", 1), "v")}
	same(t, "of a cell", of(t, "a", "n", l...).Root(), rootOf(t, "a", "n", l))
	is(t, "how long", len(made(t, "", "").Root()), 32)
}

// P1004: tablets of other bounds have other roots, be their cells the same; so have tablets of other cells.
func TestP1004OtherRoots(t *testing.T) {
	seen := map[string]string{}
	add := func(what string, x *tablet.Tablet) {
		t.Helper()
		root := string(x.Root())
		if other, has := seen[root]; has {
			t.Errorf("%s has the root of %s", what, other)
		}
		seen[root] = what
	}
	for _, b := range [][2]string{{"", ""}, {"b", ""}, {"", "n"}, {"b", "n"}, {"a", "n"}, {"b", "o"}, {"a", "no"}, {"an", "o"}} {
		what := fmt.Sprintf("%q: ", b)
		for name, l := range map[string][]api.Cell{
			"nothing":         nil,
			"a cell":          {with(at("c", 1), "v")},
			"an empty value":  {with(at("c", 1), "")},
			"another value":   {with(at("c", 1), "w")},
			"a value of one":  {with(at("c", 1), "\x01")},
			"gone":            {gone(at("c", 1))},
			"another time":    {with(at("c", 2), "v")},
			"another row":     {with(at("d", 1), "v")},
			"another family":  {with(key("c", "g", "", 1), "v")},
			"another qual":    {with(key("c", "f", "q", 1), "v")},
			"parts elsewhere": {with(key("cf", "q", "", 1), "v")},
			"two cells":       {with(at("c", 1), "v"), with(at("c", 2), "v")},
			"one gone":        {with(at("c", 1), "v"), gone(at("c", 2))},
		} {
			if b[0] <= "c" {
				add(what+name, of(t, b[0], b[1], l...))
			}
		}
	}
}

// P1004: the same cells that came about in different ways.
func TestP1004SameRoots(t *testing.T) {
	l := slices.Concat(versions("c", 5, 4), []api.Cell{gone(at("d", 1)), with(at("d", 2), "d"), with(key("e", "f", "q", 0), "")}, some(20))
	want := rootOf(t, "b", "n", l)
	same(t, "Of", of(t, "b", "n", l...).Root(), want)
	r := rand.New(rand.NewSource(1004))
	for range 50 {
		x := made(t, "b", "n")
		for _, i := range r.Perm(len(l)) {
			c := l[i]
			does(t, "Put", x, put(c.K, "another"))
			does(t, "Put again", x, put(c.K, string(c.Value)))
			if c.Gone {
				does(t, "DelCell", x, delCell(c.K))
			}
			if r.Intn(2) == 0 {
				does(t, "a row more", x, put(at("m", 1), "more"))
				does(t, "a row less", x, delRow("m"))
			}
		}
		does(t, "too old", x, put(at("c", 1), "too old"))
		same(t, "by puts", x.Root(), want)
		holds(t, "by puts", x, "b", "n", l)
		r.Shuffle(len(l), func(i, j int) { l[i], l[j] = l[j], l[i] })
		same(t, "Of, in another order", of(t, "b", "n", l...).Root(), want)
		same(t, "of its own cells", of(t, "b", "n", x.Cells()...).Root(), want)
		same(t, "of its clone", x.Clone().Root(), want)
	}
}

// P1004: who asks only changes nothing.
func TestP1004AskingChangesNothing(t *testing.T) {
	l := slices.Concat(versions("c", 5, 4), []api.Cell{gone(at("d", 1))}, some(27))
	x := of(t, "b", "n", l...)
	top := x.Tree()
	for range 3 {
		x.Bounds()
		x.Cells()
		x.Tree()
		x.Root()
		x.Clone()
		x.Apply(get(at("c", 0)))
		x.Apply(get(at("d", 0)))
		x.Apply(scan("b", ""))
		x.Apply(scan("b", "n"))
		x.Apply(scan("a", "n"))
		holds(t, "asked", x, "b", "n", l)
	}
	is(t, "the tree of before", top.Len(), 32)
}

// P1003: a clone goes its own way, and so does what it was made of.
func TestP1003Clone(t *testing.T) {
	l := append(versions("c", 1, 4), gone(at("d", 1)))
	changes := []api.Op{put(at("c", 9), "new"), put(at("c", 4), "changed"), put(at("d", 1), "d"), delCell(at("c", 4)), delColumn(at("c", 0)), delRow("d"), putNew(at("e", 1), "e"), putIf(at("c", 5), "at 4", "v"), batch("c", delRow("c"), put(at("c", 1), "v"))}
	for _, o := range changes {
		m := &model{"b", "n", l}
		is(t, "the model", m.apply(o).E, api.OK)
		x := of(t, "b", "n", l...)
		y := x.Clone()
		holds(t, "the clone", y, "b", "n", l)
		does(t, "to the clone", y, o)
		holds(t, "the clone changed", y, "b", "n", m.cells)
		holds(t, "what it was made of", x, "b", "n", l)
		z := y.Clone()
		does(t, "to what it was made of", x, delRow("c"))
		holds(t, "what it was made of, changed", x, "b", "n", []api.Cell{gone(at("d", 1))})
		holds(t, "the clone behind it", y, "b", "n", m.cells)
		does(t, "to a clone's clone", z, put(at("h", 1), "h"))
		holds(t, "the clone behind both", y, "b", "n", m.cells)
	}
	none := made(t, "a", "n")
	other := none.Clone()
	does(t, "to the clone of nothing", other, put(at("c", 1), "v"))
	holds(t, "nothing", none, "a", "n", nil)
	holds(t, "its clone", other, "a", "n", []api.Cell{with(at("c", 1), "v")})
}

// P1003: a tree that was handed out stays as it was.
func TestP1003Tree(t *testing.T) {
	x := of(t, "b", "n", versions("c", 1, 4)...)
	before := x.Tree()
	root := before.Root()
	does(t, "Put", x, put(at("c", 9), "new"))
	does(t, "DelCell", x, delCell(at("c", 4)))
	same(t, "root of before", before.Root(), root)
	is(t, "Len of before", before.Len(), 4)
	is(t, "Len of nothing", made(t, "", "").Tree().Len(), 0)
	more, _ := x.Tree().Put([]byte("key"), []byte("value"))
	is(t, "Len of more", more.Len(), 5)
	holds(t, "the tablet", x, "b", "n", append(versions("c", 2, 2), with(at("c", 9), "new"), gone(at("c", 4))))
	top := x.Tree().Top()
	for i := range top.Keys {
		spoil(top.Keys[i])
		spoil(top.Vals[i])
	}
	holds(t, "behind a top that was spoilt", x, "b", "n", append(versions("c", 2, 2), with(at("c", 9), "new"), gone(at("c", 4))))
}

// P1002 with rule 4: what is handed in is neither changed nor kept.
func TestP1002KeepsNothing(t *testing.T) {
	l := append(versions("c", 1, 4), with(key("c", "f", "q", 3), "w"))
	for _, right := range append(rightOps(), wrongOps()...) {
		m := &model{"b", "n", l}
		want := m.apply(right)
		x := of(t, "b", "n", l...)
		o := roomyOp(right)
		before := dumpOp(o)
		r := x.Apply(o)
		is(t, "handed in", dumpOp(o), before)
		spoilOp(o)
		sameResult(t, before, r, want)
		holds(t, before, x, "b", "n", m.cells)
	}
}

// P1002, P1003 with rule 4: what is handed out is memory of its own.
func TestP1003NewMemory(t *testing.T) {
	l := slices.Concat(versions("c", 1, 4), []api.Cell{gone(at("d", 1)), with(at("e", 1), "")}, some(24))
	x := of(t, "b", "n", l...)
	y := x.Clone()
	first, second := x.Cells(), x.Cells()
	spoilCells(first)
	sameCells(t, "Cells", second, sorted(l))
	holds(t, "behind Cells", x, "b", "n", l)
	for _, o := range []api.Op{get(at("c", 0)), get(at("e", 0)), scan("b", ""), scan("c", "d"), scan("c", "")} {
		one, two := x.Apply(o), x.Apply(o)
		want := texts(two.Cells)
		spoilCells(one.Cells)
		is(t, "another answer", texts(two.Cells), want)
		is(t, "a later answer", texts(x.Apply(o).Cells), want)
	}
	one, two := x.Root(), x.Root()
	spoil(one)
	same(t, "Root", two, rootOf(t, "b", "n", l))
	holds(t, "behind all", x, "b", "n", l)
	holds(t, "the clone", y, "b", "n", l)
}

// P1003 with rule 4: no two values of one answer share room.
func TestP1003ValuesApart(t *testing.T) {
	l := append(versions("c", 1, 4), some(12)...)
	x := of(t, "b", "n", l...)
	for name, cells := range map[string][]api.Cell{"Cells": x.Cells(), "Scan": x.Apply(scan("b", "")).Cells} {
		is(t, name, len(cells), 16)
		for i := range cells {
			spoil(cells[i].Value)
			sameCells(t, name, cells[i+1:], sorted(l)[i+1:])
		}
	}
}

// anyOp: of few names and times, so that it often finds something; the source's seed is fixed, so that every run is alike.
func anyOp(r *rand.Rand, rows []string, inBatch bool) api.Op {
	pick := func(l ...string) string { return l[r.Intn(len(l))] }
	row := rows[r.Intn(len(rows))]
	k := key(row, pick("f", "f", "g"), pick("", "", "q", "\x00"), []uint64{0, 1, 2, 3, 4, 5, lastTime}[r.Intn(7)])
	value := pick("", "v", "w")
	switch n := r.Intn(100); {
	case n < 45:
		return put(k, value)
	case n < 55:
		return delCell(k)
	case n < 58:
		return delColumn(k)
	case n < 59:
		return delRow(row)
	case inBatch:
		return put(k, value)
	case n < 66:
		return get(k)
	case n < 73:
		return putIf(k, pick("", "v", "w"), value)
	case n < 80:
		return putNew(k, value)
	case n < 88:
		o := batch(row)
		for range r.Intn(6) {
			o.Sub = append(o.Sub, anyOp(r, []string{row}, true))
		}
		return o
	case n < 96:
		return scan(pick(append(rows, "")...), pick(append(rows, "")...))
	}
	wrong := wrongOps()
	return wrong[r.Intn(len(wrong))]
}

// P1002, P1004: scripts, held against the model step by step; each kind of error must have come about, by each Kind that tells it.
func TestP1004Scripts(t *testing.T) {
	r := rand.New(rand.NewSource(10))
	seen := map[string]int{}
	rows := []string{"b", "b", "b", "b\x00", "c", "c", "m\xff", "a", "n", "n\x00"}
	for _, b := range [][2]string{{"b", "n"}, {"", ""}, {"b", ""}, {"", "n"}, {"b", "b\x00\x00"}} {
		for range 4 {
			x, m := made(t, b[0], b[1]), &model{from: b[0], to: b[1]}
			for step := range 600 {
				o := anyOp(r, rows, false)
				what := fmt.Sprintf("%q, step %d: %+v", b, step, o)
				clone, before := x.Clone(), x.Root()
				got, want := x.Apply(o), m.apply(o)
				sameResult(t, what, got, want)
				same(t, what+": the clone", clone.Root(), before)
				if !bytes.Equal(x.Root(), before) && (got.E != api.OK || o.Kind > api.Batch) {
					t.Errorf("%s: changed the root", what)
				}
				sameCells(t, what, x.Cells(), sorted(m.cells))
				if step%10 == 0 {
					holds(t, what, x, b[0], b[1], m.cells)
				}
				if t.Failed() {
					return
				}
				seen[fmt.Sprint(o.Kind, " ", int(got.E))]++
				if got.More {
					seen["more"]++
				}
			}
		}
	}
	errors := map[int][]api.Kind{
		api.Put: {api.OK, api.BadOp, api.Outside, api.Full}, api.DelCell: {api.OK, api.Outside, api.Missing}, api.DelColumn: {api.OK, api.Outside, api.Missing}, api.DelRow: {api.OK, api.Outside},
		api.CheckPut: {api.OK, api.Outside, api.Refused, api.Full}, api.Batch: {api.OK, api.BadOp, api.Outside, api.Missing, api.Full}, api.Get: {api.OK, api.Outside, api.Missing}, api.Scan: {api.OK, api.Outside},
	}
	for kind, l := range errors {
		for _, e := range l {
			if seen[fmt.Sprint(kind, " ", int(e))] == 0 {
				t.Errorf("Kind %d never told %d", kind, e)
			}
		}
	}
	if seen["more"] == 0 {
		t.Error("no scan had more")
	}
}
