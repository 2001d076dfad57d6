package route_test

import (
	"fmt"
	"slices"
	"testing"

	"bulwark/api"
	"bulwark/route"
)

// stretch: the parts of the rows from from on, below to, cut to these, gone through one by one.
func stretch(l []part, from, to string) []part {
	var out []part
	for _, p := range l {
		if from > p.From {
			p.From = from
		}
		if p.To == "" || to != "" && to < p.To {
			p.To = to
		}
		if p.To == "" || p.From < p.To {
			out = append(out, p)
		}
	}
	return out
}

func TestP1702Cover(t *testing.T) {
	for name, l := range tables() {
		for _, from := range names(l) {
			for _, to := range names(l) {
				sameParts(t, fmt.Sprintf("%s, from %q to %q", name, from, to), covered(t, l, from, to), stretch(l, from, to))
			}
		}
	}
}

// P1702: each row from from on, below to, is one part's, and of the group whose it is; no other row is.
func TestP1702Rows(t *testing.T) {
	for _, name := range []string{"one", "two", "near", "longest", "words", "there again"} {
		l := tables()[name]
		for _, from := range names(l) {
			for _, to := range names(l) {
				parts := covered(t, l, from, to)
				for _, row := range rows(l) {
					what := fmt.Sprintf("%s, from %q to %q: %q", name, from, to, row)
					got := of(parts, row)
					if !has(part{From: from, To: to}, row) {
						is(t, what+": parts", len(got), 0)
						continue
					}
					is(t, what+": parts", len(got), 1)
					is(t, what+": group", got[0].Group, of(l, row)[0].Group)
				}
			}
		}
	}
}

func TestP1702Edges(t *testing.T) {
	l := cutAt("f", "m")
	for _, x := range []struct {
		from, to string
		want     []part
	}{
		{"", "", l},
		{"", "f", []part{{"", "f", 1}}},
		{"", "f\x00", []part{{"", "f", 1}, {"f", "f\x00", 2}}},
		{"", "\x00", []part{{"", "\x00", 1}}},
		{"f", "m", []part{{"f", "m", 2}}},
		{"e\xff", "m\x00", []part{{"e\xff", "f", 1}, {"f", "m", 2}, {"m", "m\x00", 3}}},
		{"g", "h", []part{{"g", "h", 2}}},
		{"g", "", []part{{"g", "m", 2}, {"m", "", 3}}},
		{"m", "", []part{{"m", "", 3}}},
		{"z", "", []part{{"z", "", 3}}},
		{"z", "z\x00", []part{{"z", "z\x00", 3}}},
		{long(32), "", []part{{long(32), "", 3}}},
		{"f", long(32), []part{{"f", "m", 2}, {"m", long(32), 3}}},
	} {
		sameParts(t, fmt.Sprintf("from %q to %q", x.from, x.to), covered(t, l, x.from, x.to), x.want)
	}
}

// P1702: where to is not above from there is nothing; that is no error.
func TestP1702Nothing(t *testing.T) {
	for name, l := range tables() {
		for _, x := range [][2]string{{"f", "f"}, {"m", "f"}, {"\x00", "\x00"}, {"m\x00", "m"}, {"z", "a"}, {long(32), long(31)}, {long(32), long(32)}} {
			is(t, fmt.Sprintf("%s, from %q to %q", name, x[0], x[1]), len(covered(t, l, x[0], x[1])), 0)
		}
	}
}

func TestP1702TooLong(t *testing.T) {
	for name, l := range tables() {
		for _, x := range [][2]string{{long(33), ""}, {"", long(33)}, {long(33), long(33)}, {"a", long(33)}, {long(33), "z"}, {long(33), "a"}, {"z", long(33)}, {long(1000), long(1000)}} {
			notCovered(t, name, l, x[0], x[1], api.BadArg)
		}
	}
}

// P1702: what is no table is told ahead of all else, where there is nothing too.
func TestP1702NoTable(t *testing.T) {
	for name, l := range noTables() {
		for _, x := range [][2]string{{"", ""}, {"a", "z"}, {"f", "f"}, {"m", "f"}, {long(33), ""}, {"", long(33)}} {
			notCovered(t, name, l, x[0], x[1], api.BadForm)
		}
	}
}

// P1702: what is told is new memory, and what was handed in stays as it was, its spare room too.
func TestP1702Memory(t *testing.T) {
	for name, table := range tables() {
		for _, x := range [][2]string{{"", ""}, {"a", ""}, {"", "n"}, {"g", "h"}, {"f", "m"}, {"m", "f"}} {
			l, memory, was := roomy(table)
			first, second := covered(t, l, x[0], x[1]), covered(t, l, x[0], x[1])
			sameParts(t, name+": what was handed in", memory, was)
			before := slices.Clone(second)
			spoil(first)
			sameParts(t, name+": what was handed in, the answer written into", memory, was)
			sameParts(t, name+": the other answer", second, before)
			sameParts(t, name+": asked again", covered(t, l, x[0], x[1]), before)
			spoil(memory)
			sameParts(t, name+": the answer, what was handed in written into", second, before)
		}
	}
}

func TestP1702AsksOnly(t *testing.T) {
	l := cutAt("f", "m")
	for range 3 {
		covered(t, l, "g", "z")
		got, found := route.Find(l, "g")
		is(t, "found", found, true)
		is(t, "the part", got, part{"f", "m", 2})
		is(t, "Right", route.Right(l), api.OK)
	}
}
