package route_test

import (
	"fmt"
	"math/rand"
	"testing"

	"bulwark/api"
	"bulwark/route"
)

// P1704: each row is one part's, and that one is found.
func TestP1704EachRow(t *testing.T) {
	for name, l := range tables() {
		if len(l) == mostParts {
			l = inOne(l, "r005")
		}
		for _, at := range names(l) {
			if begins(l, at) {
				continue
			}
			next := cut(t, l, at, 9)
			for _, row := range rows(next) {
				what := fmt.Sprintf("%s, at %q: %q", name, at, row)
				is(t, what+": parts", len(of(next, row)), 1)
				got, found := route.Find(next, row)
				is(t, what+": found", found, true)
				is(t, what+": the part", got, of(next, row)[0])
				want := of(l, row)[0].Group
				if has(part{From: at, To: of(l, at)[0].To}, row) {
					want = 9
				}
				is(t, what+": group", got.Group, want)
			}
		}
	}
}

// P1704: what was cut is joined as it was.
func TestP1704ThereAndBack(t *testing.T) {
	for name, l := range tables() {
		if len(l) == mostParts {
			continue
		}
		for _, at := range names(l) {
			if begins(l, at) {
				continue
			}
			for _, group := range []uint64{1, 9, greatest} {
				sameParts(t, fmt.Sprintf("%s, at %q", name, at), joined(t, cut(t, l, at, group), at), l)
			}
		}
	}
}

// P1704: what was joined is cut as it was, of the group that it had.
func TestP1704BackAndThere(t *testing.T) {
	for name, l := range tables() {
		for _, p := range l[1:] {
			sameParts(t, fmt.Sprintf("%s, at %q", name, p.From), cut(t, joined(t, l, p.From), p.From, p.Group), l)
		}
	}
}

// P1704: all that a table covers is the table; what two stretches that meet cover, is covered by both together.
func TestP1704Stretches(t *testing.T) {
	for _, name := range []string{"one", "two", "near", "longest", "words", "groups fall"} {
		l := tables()[name]
		sameParts(t, name, covered(t, l, "", ""), l)
		all := names(l)
		for i, at := range all[1:] {
			low, high := covered(t, l, "", at), covered(t, l, at, "")
			both := append(low, high...)
			if !begins(l, at) {
				sameParts(t, fmt.Sprintf("%s, at %q", name, at), joined(t, both, at), l)
				continue
			}
			sameParts(t, fmt.Sprintf("%s, at %q", name, all[i+1]), both, l)
		}
	}
}

// model: of each row that scripts use, by its place, which group has it, and does a part begin there?
type model struct {
	group  []uint64
	begins []bool
}

// parts: the model's table.
func (m *model) parts(rows []string) []part {
	var out []part
	for i, row := range rows {
		if !m.begins[i] {
			continue
		}
		if len(out) > 0 {
			out[len(out)-1].To = row
		}
		out = append(out, part{From: row, Group: m.group[i]})
	}
	return out
}

// split, join: what they do to the rows, and the kind.
func (m *model) split(rows []string, at int, group uint64) api.Kind {
	switch {
	case m.begins[at] || group == 0:
		return api.BadArg
	case len(m.parts(rows)) == mostParts:
		return api.TooLarge
	}
	m.begins[at] = true
	m.give(at, group)
	return api.OK
}

func (m *model) join(at int) api.Kind {
	if at == 0 || !m.begins[at] {
		return api.Missing
	}
	m.begins[at] = false
	m.give(at, m.group[at-1])
	return api.OK
}

// give: the rows from one on, up to where the next part begins, are a group's.
func (m *model) give(at int, group uint64) {
	m.group[at] = group
	for i := at + 1; i < len(m.group) && !m.begins[i]; i++ {
		m.group[i] = group
	}
}

// P1704: scripts of cuts and joins, beside a model that knows the group of each row; the source's seed is fixed, so that every run is alike.
func TestP1704Scripts(t *testing.T) {
	r := rand.New(rand.NewSource(17))
	all := append([]string{""}, numbered(90)...)
	kinds := map[api.Kind]int{}
	for run := range 4 {
		m := &model{make([]uint64, len(all)), make([]bool, len(all))}
		m.begins[0] = true
		m.give(0, 1)
		l := []part{{Group: 1}}
		for step := range 400 {
			at, group := r.Intn(len(all)), uint64(r.Intn(9))
			what := fmt.Sprintf("run %d, step %d, at %q", run, step, all[at])
			var got []part
			var kind, want api.Kind
			if r.Intn(10) < 7 {
				got, kind = route.Split(l, all[at], group)
				want = m.split(all, at, group)
			} else {
				got, kind = route.Join(l, all[at])
				want = m.join(at)
			}
			kinds[kind]++
			is(t, what, kind, want)
			if kind == api.OK {
				l = got
			}
			sameParts(t, what, l, m.parts(all))
			for i, row := range all {
				p, _ := route.Find(l, row)
				is(t, fmt.Sprintf("%s: group of %q", what, row), p.Group, m.group[i])
			}
			if t.Failed() {
				return
			}
		}
	}
	for _, kind := range []api.Kind{api.OK, api.BadArg, api.TooLarge, api.Missing} {
		is(t, fmt.Sprint("was ", int(kind), " told"), kinds[kind] > 0, true)
	}
}
