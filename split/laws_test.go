package split_test

import (
	"bytes"
	"fmt"
	"math/rand"
	"slices"
	"testing"

	"bulwark/api"
	"bulwark/split"
	"bulwark/tablet"
)

// P1104: what was cut in two, laid together, is as it was.
func TestP1104ThereAndBack(t *testing.T) {
	for name, l := range lists() {
		for _, bound := range bounds() {
			x := of(t, bound[0], bound[1], l...)
			for _, row := range rows() {
				what := fmt.Sprintf("%s, %q, at %q", name, bound, row)
				a, b := cut(t, x, row)
				again := laid(t, a, b)
				is(t, what+": Root", bytes.Equal(again.Root(), x.Root()), true)
				holds(t, what, again, bound[0], bound[1], l)
				notLaid(t, what+", the other way round", b, a, api.BadArg)
			}
		}
	}
}

// P1104: of three parts it does not matter which two are laid together first.
func TestP1104Three(t *testing.T) {
	for name, l := range lists() {
		x := of(t, "b", "n", l...)
		for i, low := range rows() {
			for _, high := range rows()[i+1:] {
				a, rest := cut(t, x, low)
				b, c := cut(t, rest, high)
				holds(t, name+", the first two first", laid(t, laid(t, a, b), c), "b", "n", l)
				holds(t, name+", the last two first", laid(t, a, laid(t, b, c)), "b", "n", l)
				notLaid(t, name+", none between", a, c, api.BadArg)
			}
		}
	}
}

// opsOf: of each Kind, on a row alone; some find what they ask for, and some do not.
func opsOf(row string) []api.Op {
	ks := []api.Key{at(row, 1), at(row, 0), at(row, lastTime), key(row, "f", "q", 7), key(row, "e", "q", 1), key(row, "new", "", 5)}
	out := []api.Op{delRow(row), scan(row, row+"\x00"), batch(row, delRow(row), put(ks[0], "v")), batch(row, put(ks[0], "v"), put(ks[3], "w"), delCell(ks[0]))}
	for _, k := range ks {
		out = append(out, put(k, "new"), put(k, ""), delCell(k), delColumn(k), get(k), putNew(k, "v"), putIf(k, "", "w"), putIf(k, "v", "w"), batch(row, put(k, "v"), delCell(at(row, 99))), batch(row, delColumn(k), put(k, "v")))
	}
	return append(out, api.Op{Kind: 9, K: ks[0]}, put(ks[0], long(257)), batch(row))
}

// P1104: an operation on a row does the same in the part that has it, and the other part refuses it; the parts, laid together, are the whole behind it.
func TestP1104Operations(t *testing.T) {
	seen := map[string]int{}
	for name, l := range lists() {
		if len(l) > 30 {
			// no room for the two cells that a batch may put: see TestP1104NoRoom
			l = l[:30]
		}
		before := of(t, "b", "n", l...)
		for _, cutAt := range []string{"g", "g\x00", "m\xff"} {
			low, high := cut(t, before, cutAt)
			for _, row := range []string{"b", "c003", "g", "g\x00", "k", "m\xff"} {
				for _, o := range opsOf(row) {
					what := fmt.Sprintf("%s, at %q: %+v", name, cutAt, o)
					whole, a, b := before.Clone(), low.Clone(), high.Clone()
					part, other, others := a, b, high
					if row >= cutAt {
						part, other, others = b, a, low
					}
					want := whole.Apply(o)
					sameResult(t, what, part.Apply(o), want)
					sameCells(t, what, slices.Concat(a.Cells(), b.Cells()), whole.Cells())
					is(t, what+": Root", bytes.Equal(laid(t, a, b).Root(), whole.Root()), true)
					refused := api.Outside
					if want.E == api.BadOp {
						refused = api.BadOp
					}
					sameResult(t, what+", in the other", other.Apply(o), api.Result{E: refused})
					is(t, what+": Root of the other", bytes.Equal(other.Root(), others.Root()), true)
					seen[fmt.Sprint(o.Kind, " ", int(want.E))]++
				}
			}
		}
	}
	errors := map[int][]api.Kind{
		api.Put: {api.OK, api.BadOp}, api.DelCell: {api.OK, api.Missing}, api.DelColumn: {api.OK, api.Missing}, api.DelRow: {api.OK, api.Missing},
		api.CheckPut: {api.OK, api.Refused}, api.Batch: {api.OK, api.BadOp, api.Missing}, api.Get: {api.OK, api.Missing}, api.Scan: {api.OK}, 9: {api.BadOp},
	}
	for kind, l := range errors {
		for _, e := range l {
			if seen[fmt.Sprint(kind, " ", int(e))] == 0 {
				t.Errorf("Kind %d never told %d", kind, e)
			}
		}
	}
}

// P1104: a scan of rows of one part alone.
func TestP1104Scans(t *testing.T) {
	for name, l := range lists() {
		whole := of(t, "b", "n", l...)
		a, b := cut(t, whole, "g")
		for _, s := range []struct {
			part     *tablet.Tablet
			row, to  string
			isOfBoth bool
		}{{a, "b", "g", false}, {a, "c", "d", false}, {a, "f\xff", "g", false}, {b, "g", "n", false}, {b, "g", "", false}, {b, "ga", "m", false}, {b, "n", "n", false}, {a, "b", "g\x00", true}, {a, "b", "n", true}, {b, "b", "n", true}, {b, "f\xff", "h", true}} {
			what := fmt.Sprintf("%s, from %q to %q", name, s.row, s.to)
			want := whole.Apply(scan(s.row, s.to))
			is(t, what, want.E, api.OK)
			if s.isOfBoth {
				want = api.Result{E: api.Outside}
			}
			sameResult(t, what, s.part.Apply(scan(s.row, s.to)), want)
		}
	}
}

// P1104: where the whole has MaxCells, it has no room for a new key, as chapter 10 says; the part that has the row does as a tablet of its own.
func TestP1104NoRoom(t *testing.T) {
	l := slices.Concat(some("c", 16), some("k", 16))
	whole := of(t, "b", "n", l...)
	a, b := cut(t, whole, "g")
	o := put(at("d", 1), "new")
	sameResult(t, "the whole", whole.Apply(o), api.Result{E: api.Full})
	does(t, "the part", a, o)
	holds(t, "the part", a, "b", "g", append(some("c", 16), with(at("d", 1), "new")))
	notLaid(t, "together", a, b, api.Full)
	for _, o := range []api.Op{put(at("c003", 3), "changed"), delCell(at("c004", 4)), delRow("c005"), get(at("c006", 0)), delCell(at("d", 9))} {
		a, _ := cut(t, whole, "g")
		sameResult(t, "no new key", a.Apply(o), whole.Apply(o))
		sameCells(t, "no new key", a.Cells(), inRows("", "g", whole.Cells()))
	}
}

// anyOp: on one of these rows, of few names and times, so that it often finds something.
func anyOp(r *rand.Rand, rows []string) api.Op {
	pick := func(l ...string) string { return l[r.Intn(len(l))] }
	row := pick(rows...)
	k := key(row, pick("f", "f", "g"), pick("", "q"), uint64(r.Intn(7)))
	value := pick("", "v", "w")
	switch n := r.Intn(20); {
	case n < 9:
		return put(k, value)
	case n < 12:
		return delCell(k)
	case n < 13:
		return delColumn(k)
	case n < 14:
		return delRow(row)
	case n < 15:
		return get(k)
	case n < 16:
		return putIf(k, pick("", "v"), value)
	case n < 17:
		return putNew(k, value)
	case n < 18:
		return scan(row, row+"\x00")
	}
	return batch(row, put(k, value), delCell(k), put(at(row, 3), value))
}

// P1104: scripts, on a tablet and on its parts, which are cut at the middle row, laid together and cut again; the source's seed is fixed, so that every run is alike.
func TestP1104Scripts(t *testing.T) {
	r := rand.New(rand.NewSource(11))
	cuts := 0
	for range 20 {
		whole := of(t, "", "")
		a, b := cut(t, whole, "g")
		border := "g"
		for step := range 200 {
			o := anyOp(r, []string{"b", "b\x00", "c", "f\xff", "g", "g\x00", "k", "m\xff"})
			part := a
			if o.K.Row >= border {
				part = b
			}
			what := fmt.Sprintf("step %d: %+v", step, o)
			want := whole.Clone().Apply(o)
			if want.E == api.Full {
				continue
			}
			whole.Apply(o)
			sameResult(t, what, part.Apply(o), want)
			together := laid(t, a, b)
			holds(t, what, together, "", "", whole.Cells())
			if row, has := split.Middle(together); has && r.Intn(4) == 0 {
				a, b = cut(t, together, row)
				border = row
				cuts++
			}
			if t.Failed() {
				return
			}
		}
	}
	is(t, "cuts", cuts > 200, true)
}
