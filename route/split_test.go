package route_test

import (
	"fmt"
	"slices"
	"testing"

	"bulwark/api"
	"bulwark/route"
)

// inTwo: the part that has a row is two, gone through one by one.
func inTwo(l []part, at string, group uint64) []part {
	var out []part
	for _, p := range l {
		if !has(p, at) {
			out = append(out, p)
			continue
		}
		out = append(out, part{p.From, at, p.Group}, part{at, p.To, group})
	}
	return out
}

// inOne: the part that begins at a row is the end of the one ahead.
func inOne(l []part, at string) []part {
	var out []part
	for _, p := range l {
		if p.From != at {
			out = append(out, p)
			continue
		}
		out[len(out)-1].To = p.To
	}
	return out
}

// begins: of which rows is it asked whether a part begins there?
func begins(l []part, at string) bool {
	return slices.ContainsFunc(l, func(p part) bool { return p.From == at })
}

func TestP1703Example(t *testing.T) {
	l := cut(t, []part{{Group: 1}}, "m", 2)
	a, _ := route.Find(l, "a")
	is(t, "a", a, part{"", "m", 1})
	z, _ := route.Find(l, "z")
	is(t, "z", z, part{"m", "", 2})
}

func TestP1703Split(t *testing.T) {
	for name, l := range tables() {
		if len(l) == mostParts {
			continue
		}
		for _, at := range names(l) {
			for _, group := range []uint64{1, 2, 9, 1 << 63, greatest} {
				what := fmt.Sprintf("%s, at %q", name, at)
				if begins(l, at) {
					notCut(t, what, l, at, group, api.BadArg)
					continue
				}
				got := cut(t, l, at, group)
				sameParts(t, what, got, inTwo(l, at, group))
				is(t, what+": Right", route.Right(got), api.OK)
			}
		}
	}
}

func TestP1703SplitWrong(t *testing.T) {
	for name, l := range tables() {
		notCut(t, name+", at nothing", l, "", 2, api.BadArg)
		notCut(t, name+", too long", l, long(33), 2, api.BadArg)
		notCut(t, name+", far too long", l, long(1000), 2, api.BadArg)
		notCut(t, name+", no group", l, "b", 0, api.BadArg)
		notCut(t, name+", nothing and no group", l, "", 0, api.BadArg)
		for _, p := range l {
			notCut(t, name+", where a part begins", l, p.From, 2, api.BadArg)
			notCut(t, name+", where a part begins, no group", l, p.From, 0, api.BadArg)
		}
	}
}

// P1703: 63 parts can be 64; 64 can't be more, but what can't be an argument is told ahead of that.
func TestP1703SplitFull(t *testing.T) {
	full := cut(t, tables()["63"], "z", 7)
	is(t, "parts", len(full), 64)
	is(t, "the last one", full[63], part{"z", "", 7})
	for _, l := range [][]part{full, tables()["64"]} {
		for _, at := range []string{"a", "r000\x00", "r0305", "zz", "\xff", long(32)} {
			notCut(t, fmt.Sprintf("of 64, at %q", at), l, at, 7, api.TooLarge)
			notCut(t, "of 64, no group", l, at, 0, api.BadArg)
		}
		notCut(t, "of 64, at nothing", l, "", 7, api.BadArg)
		notCut(t, "of 64, too long", l, long(33), 7, api.BadArg)
		notCut(t, "of 64, where a part begins", l, "r005", 7, api.BadArg)
	}
	less := joined(t, full, "r005")
	is(t, "parts of one less", len(cut(t, less, "r005", 8)), 64)
}

func TestP1703Join(t *testing.T) {
	for name, l := range tables() {
		for _, at := range rows(l) {
			what := fmt.Sprintf("%s, at %q", name, at)
			if at == "" || !begins(l, at) {
				notJoined(t, what, l, at, api.Missing)
				continue
			}
			got := joined(t, l, at)
			sameParts(t, what, got, inOne(l, at))
			is(t, what+": Right", route.Right(got), api.OK)
		}
	}
}

func TestP1703JoinEdges(t *testing.T) {
	l := cutAt("f", "m")
	sameParts(t, "the first two", joined(t, l, "f"), []part{{"", "m", 1}, {"m", "", 3}})
	sameParts(t, "the last two", joined(t, l, "m"), []part{{"", "f", 1}, {"f", "", 2}})
	sameParts(t, "all", joined(t, joined(t, l, "m"), "f"), []part{{"", "", 1}})
	sameParts(t, "all, the first two first", joined(t, joined(t, l, "f"), "m"), []part{{"", "", 1}})
	for _, at := range []string{"", "\x00", "e\xff", "f\x00", "g", "l", "m\x00", "z", long(32), long(33), long(1000)} {
		notJoined(t, fmt.Sprintf("at %.40q", at), l, at, api.Missing)
	}
	for _, at := range []string{"", "a", long(33)} {
		notJoined(t, fmt.Sprintf("one part, at %.40q", at), []part{{Group: 1}}, at, api.Missing)
	}
}

// P1703: what is no table is told ahead of all else.
func TestP1703NoTable(t *testing.T) {
	for name, l := range noTables() {
		for _, at := range []string{"", "a", "f", "g", "m", "z", long(32), long(33)} {
			notJoined(t, name, l, at, api.BadForm)
			for _, group := range []uint64{0, 1, greatest} {
				notCut(t, name, l, at, group, api.BadForm)
			}
		}
	}
}

// P1703: what is told is new memory, and what was handed in stays as it was, its spare room too.
func TestP1703Memory(t *testing.T) {
	for name, table := range tables() {
		if len(table) == mostParts {
			table = inOne(table, "r005")
		}
		middle := table[len(table)/2].From
		for what, do := range map[string]func(l []part) ([]part, api.Kind){
			"cut in the first":   func(l []part) ([]part, api.Kind) { return route.Split(l, "\x00\x00\x00", 5) },
			"cut in the last":    func(l []part) ([]part, api.Kind) { return route.Split(l, "\xff\xff\xff", 5) },
			"cut in the middle":  func(l []part) ([]part, api.Kind) { return route.Split(l, "m\x00\x00\x00", 5) },
			"joined":             func(l []part) ([]part, api.Kind) { return route.Join(l, middle) },
			"joined at the last": func(l []part) ([]part, api.Kind) { return route.Join(l, l[len(l)-1].From) },
			"not cut":            func(l []part) ([]part, api.Kind) { return route.Split(l, middle, 5) },
			"not joined":         func(l []part) ([]part, api.Kind) { return route.Join(l, "nowhere") },
		} {
			l, memory, was := roomy(table)
			first, _ := do(l)
			second, _ := do(l)
			sameParts(t, name+", "+what+": what was handed in", memory, was)
			before := slices.Clone(second)
			spoil(first)
			sameParts(t, name+", "+what+": what was handed in, the answer written into", memory, was)
			sameParts(t, name+", "+what+": the other answer", second, before)
			spoil(memory)
			sameParts(t, name+", "+what+": the answer, what was handed in written into", second, before)
		}
	}
}
