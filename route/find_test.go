package route_test

import (
	"fmt"
	"strings"
	"testing"

	"bulwark/api"
	"bulwark/route"
)

func TestP1701Right(t *testing.T) {
	for name, l := range tables() {
		is(t, name, route.Right(l), api.OK)
	}
}

func TestP1701NoTable(t *testing.T) {
	for name, l := range noTables() {
		is(t, name, route.Right(l), api.BadForm)
	}
}

// P1701: the edges that the word names, from both sides.
func TestP1701Edges(t *testing.T) {
	is(t, "64 parts", route.Right(cutAt(numbered(63)...)), api.OK)
	is(t, "65 parts", route.Right(cutAt(numbered(64)...)), api.BadForm)
	is(t, "32 bytes", route.Right(cutAt(long(32))), api.OK)
	is(t, "33 bytes", route.Right(cutAt(long(33))), api.BadForm)
	is(t, "33 bytes, in the middle", route.Right(cutAt("a", long(33), "z")), api.BadForm)
	is(t, "group 1", route.Right([]part{{Group: 1}}), api.OK)
	is(t, "the greatest group", route.Right([]part{{Group: greatest}}), api.OK)
	is(t, "group 0", route.Right([]part{{Group: 0}}), api.BadForm)
	is(t, "a byte above", route.Right(cutAt("m", "m\x00")), api.OK)
	is(t, "the same row", route.Right(cutAt("m", "m")), api.BadForm)
}

// P1701: a table's parts, some of them taken alone, are no table: they don't have all rows.
func TestP1701Pieces(t *testing.T) {
	l := cutAt("f", "m", "t")
	for from := range len(l) {
		for to := from; to <= len(l); to++ {
			want := api.BadForm
			if from == 0 && to == len(l) {
				want = api.OK
			}
			is(t, fmt.Sprintf("parts %d to %d", from, to), route.Right(l[from:to]), want)
		}
	}
}

func TestP1701Find(t *testing.T) {
	for name, l := range tables() {
		for _, row := range rows(l) {
			want := of(l, row)
			is(t, fmt.Sprintf("%s: parts of %q", name, row), len(want), 1)
			got, found := route.Find(l, row)
			is(t, fmt.Sprintf("%s: is there one of %q", name, row), found, true)
			is(t, fmt.Sprintf("%s: the one of %q", name, row), got, want[0])
		}
	}
}

func TestP1701FindEdges(t *testing.T) {
	l := cutAt("f", "m")
	for row, want := range map[string]int{"": 0, "\x00": 0, "e\xff\xff": 0, "f": 1, "f\x00": 1, "l\xff": 1, "m": 2, "m\x00": 2, "\xff": 2, strings.Repeat("\xff", 32): 2, strings.Repeat("\xff", 1000): 2, long(33): 2} {
		got, found := route.Find(l, row)
		is(t, fmt.Sprintf("is there one of %.40q", row), found, true)
		is(t, fmt.Sprintf("the one of %.40q", row), got, l[want])
	}
}

func TestP1701FindNoTable(t *testing.T) {
	for name, l := range noTables() {
		for _, row := range []string{"", "a", "f", "g", "m", "z", long(40)} {
			got, found := route.Find(l, row)
			is(t, fmt.Sprintf("%s: is there one of %q", name, row), found, false)
			is(t, fmt.Sprintf("%s: the one of %q", name, row), got, part{})
		}
	}
}
