package route_test

import (
	"fmt"
	"math"
	"slices"
	"strings"
	"testing"

	"bulwark/api"
	"bulwark/route"
)

type part = route.Part

const (
	greatest  = math.MaxUint64
	mostParts = 64
)

func is[T comparable](t *testing.T, what string, got, want T) {
	t.Helper()
	if got != want {
		t.Errorf("%s: %#v, not %#v", what, got, want)
	}
}

func sameParts(t *testing.T, what string, got, want []part) {
	t.Helper()
	if !slices.Equal(got, want) {
		t.Errorf("%s: %.300q, not %.300q", what, texts(got), texts(want))
	}
}

func texts(l []part) string {
	var out []string
	for _, p := range l {
		out = append(out, fmt.Sprintf("%q to %q: %d", p.From, p.To, p.Group))
	}
	return strings.Join(out, ", ")
}

func long(size int) string {
	return strings.Repeat("n", size)
}

// cutAt: a table of parts that begin at these rows, behind the first one; of groups that rise from 1 on.
func cutAt(rows ...string) []part {
	out := []part{{Group: 1}}
	for i, row := range rows {
		out[i].To = row
		out = append(out, part{From: row, Group: uint64(i) + 2})
	}
	return out
}

// numbered: that many rows, rising.
func numbered(count int) []string {
	var out []string
	for i := range count {
		out = append(out, fmt.Sprintf("r%03d", i))
	}
	return out
}

func tables() map[string][]part {
	last := strings.Repeat("\xff", api.MaxName)
	return map[string][]part{
		"one":           {{Group: 1}},
		"one, greatest": {{Group: greatest}},
		"two":           cutAt("m"),
		"three":         cutAt("m", "t"),
		"near":          cutAt("\x00", "\x00\x00", "m", "m\x00", "m\x00\x00", "m\x01", "ma", "n"),
		"longest":       cutAt(long(api.MaxName-1), long(api.MaxName), last),
		"words":         cutAt("a", "é", "日本", "\xff", "\xff\xff"),
		"one group":     {{To: "f", Group: 7}, {From: "f", To: "m", Group: 7}, {From: "m", Group: 7}},
		"groups fall":   {{To: "f", Group: greatest}, {From: "f", To: "m", Group: 1 << 63}, {From: "m", Group: 1}},
		"there again":   {{To: "f", Group: 2}, {From: "f", To: "m", Group: 1}, {From: "m", Group: 2}},
		"63":            cutAt(numbered(mostParts - 2)...),
		"64":            cutAt(numbered(mostParts - 1)...),
	}
}

// but: a table of three groups, at f and at m, where a part is changed.
func but(i int, change func(p *part)) []part {
	l := cutAt("f", "m")
	change(&l[i])
	return l
}

// noTables: each has one thing wrong, or few.
func noTables() map[string][]part {
	out := map[string][]part{
		"nil":                     nil,
		"nothing":                 {},
		"a zero part":             {{}},
		"from a row":              {{From: "a", Group: 1}},
		"up to a row":             {{To: "z", Group: 1}},
		"of some rows":            {{From: "a", To: "z", Group: 1}},
		"one row twice":           {{Group: 1}, {Group: 2}},
		"all, and more":           {{Group: 1}, {From: "m", Group: 2}},
		"the end too long":        {{To: long(api.MaxName + 1), Group: 1}, {From: long(api.MaxName + 1), Group: 2}},
		"a part of no row":        {{To: "f", Group: 1}, {From: "f", To: "f", Group: 2}, {From: "f", Group: 3}},
		"the first one of no row": {{Group: 1}, {To: "f", Group: 2}, {From: "f", Group: 3}},
		"falling":                 {{To: "m", Group: 1}, {From: "m", To: "f", Group: 2}, {From: "f", Group: 3}},
		"falling by a byte":       {{To: "m\x00", Group: 1}, {From: "m\x00", To: "m", Group: 2}, {From: "m", Group: 3}},
		"the other way round":     {{From: "m", Group: 2}, {To: "m", Group: 1}},
		"65":                      cutAt(numbered(mostParts)...),
		"many":                    cutAt(numbered(700)...),
	}
	for i := range 3 {
		out[fmt.Sprint("no group: ", i)] = but(i, func(p *part) { p.Group = 0 })
		out[fmt.Sprint("another From: ", i)] = but(i, func(p *part) { p.From += "\x00" })
		out[fmt.Sprint("another To: ", i)] = but(i, func(p *part) { p.To += "\x00" })
		out[fmt.Sprint("a From that is too great: ", i)] = but(i, func(p *part) { p.From = "g" })
		out[fmt.Sprint("a To that is too little: ", i)] = but(i, func(p *part) { p.To = "e" })
		out[fmt.Sprint("a To that is too great: ", i)] = but(i, func(p *part) { p.To = "z" })
		out[fmt.Sprint("without: ", i)] = slices.Delete(cutAt("f", "m", "t"), i, i+1)
	}
	for i := range 2 {
		out[fmt.Sprint("no To: ", i)] = but(i, func(p *part) { p.To = "" })
		out[fmt.Sprint("no From: ", i+1)] = but(i+1, func(p *part) { p.From = "" })
	}
	return out
}

// rows: around all that tables are cut at.
func rows(l []part) []string {
	out := []string{"", "\x00", "\x00\x00", "a", "m", "z", "\xff", "r0005", long(api.MaxName), strings.Repeat("\xff", api.MaxName)}
	for _, p := range l {
		out = append(out, p.From, p.From+"\x00", p.From+"z")
		if n := len(p.From); n > 0 {
			out = append(out, p.From[:n-1], p.From[:n-1]+string([]byte{p.From[n-1] - 1}), p.From[:n-1]+string([]byte{p.From[n-1] - 1, 0xff}))
		}
	}
	slices.Sort(out)
	return slices.Compact(out)
}

// names: of the rows those that are no longer than names may be.
func names(l []part) []string {
	return slices.DeleteFunc(rows(l), func(row string) bool { return len(row) > api.MaxName })
}

func has(p part, row string) bool {
	return p.From <= row && (p.To == "" || row < p.To)
}

// of: the parts that have a row, gone through one by one.
func of(l []part, row string) []part {
	return slices.DeleteFunc(slices.Clone(l), func(p part) bool { return !has(p, row) })
}

// roomy: these parts with spare room behind them; its whole memory, and how it was.
func roomy(l []part) (handed, memory, was []part) {
	memory = append(slices.Clone(l), part{"spare", "room", 77}, part{"more", "of it", 78}, part{})
	return memory[:len(l)], memory, slices.Clone(memory)
}

// spoil writes into all of a list's memory.
func spoil(l []part) {
	l = l[:cap(l)]
	for i := range l {
		l[i] = part{"spoilt", "spoilt", 99}
	}
}

// cut, joined, covered: without an error.
func cut(t *testing.T, l []part, at string, group uint64) []part {
	t.Helper()
	out, kind := route.Split(l, at, group)
	is(t, fmt.Sprintf("Split at %q", at), kind, api.OK)
	return out
}

func joined(t *testing.T, l []part, at string) []part {
	t.Helper()
	out, kind := route.Join(l, at)
	is(t, fmt.Sprintf("Join at %q", at), kind, api.OK)
	return out
}

func covered(t *testing.T, l []part, from, to string) []part {
	t.Helper()
	out, kind := route.Cover(l, from, to)
	is(t, fmt.Sprintf("Cover from %q to %q", from, to), kind, api.OK)
	return out
}

// notCut, notJoined, notCovered: nothing, and why.
func notCut(t *testing.T, what string, l []part, at string, group uint64, want api.Kind) {
	t.Helper()
	out, kind := route.Split(l, at, group)
	is(t, what+": Split", kind, want)
	is(t, what+": parts of Split", len(out), 0)
}

func notJoined(t *testing.T, what string, l []part, at string, want api.Kind) {
	t.Helper()
	out, kind := route.Join(l, at)
	is(t, what+": Join", kind, want)
	is(t, what+": parts of Join", len(out), 0)
}

func notCovered(t *testing.T, what string, l []part, from, to string, want api.Kind) {
	t.Helper()
	out, kind := route.Cover(l, from, to)
	is(t, what+": Cover", kind, want)
	is(t, what+": parts of Cover", len(out), 0)
}
