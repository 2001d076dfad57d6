package session_test

import (
	"bytes"
	"encoding/binary"
	"fmt"
	"math/rand"
	"slices"
	"testing"

	"bulwark/api"
	"bulwark/op"
	"bulwark/session"
)

// model: a table, told by the chapter's words over a plain list.
type model []session.Last

func (m model) at(client uint64) *session.Last {
	for i := range m {
		if m[i].Client == client {
			return &m[i]
		}
	}
	return nil
}

func (m model) ask(client, stamp uint64) (api.Result, api.Kind) {
	l := m.at(client)
	switch {
	case l == nil:
		return api.Result{}, api.Unknown
	case stamp < l.Stamp:
		return api.Result{}, api.Stale
	case stamp > l.Stamp:
		return api.Result{}, api.Missing
	}
	return l.R, api.OK
}

func (m model) put(client, stamp uint64, r api.Result, hasBytes bool) api.Kind {
	l := m.at(client)
	switch {
	case l == nil:
		return api.Unknown
	case stamp <= l.Stamp:
		return api.Stale
	case !hasBytes:
		return api.BadArg
	}
	l.Stamp, l.R = stamp, r
	return api.OK
}

// pick: one of them; the sources' seeds are fixed, so that every run is alike.
func pick[T any](source *rand.Rand, l []T) T {
	return l[source.Intn(len(l))]
}

// near: a stamp around the last one of a client, or any one.
func near(source *rand.Rand, m model, client uint64) uint64 {
	if l := m.at(client); l != nil && source.Intn(8) > 0 {
		return l.Stamp + uint64(source.Intn(6)) - 2
	}
	return pick(source, []uint64{0, 1, 2, 50, 1000, 1 << 63, greatest - 1})
}

func stampsOf(x *session.Table) []uint64 {
	var out []uint64
	for _, l := range x.All() {
		out = append(out, l.Stamp)
	}
	return out
}

// step: one Put and one Ask, held against the model; no stamp falls by it.
func step(t *testing.T, source *rand.Rand, x *session.Table, m model) api.Kind {
	t.Helper()
	client := pick(source, []uint64{1, 3, 3, 9, 9, 9, 200, 200, greatest, 0, 4, greatest - 1})
	stamp := near(source, m, client)
	r, hasBytes := pick(source, results()), true
	if source.Intn(6) == 0 {
		l := noResults()
		r, hasBytes = pick(source, []api.Result{l["E 19"], l["17 cells"], l["no row"], l["a long value"]}), false
	}
	before := stampsOf(x)
	what := fmt.Sprintf("%d, %d, %+v", client, stamp, r)
	kind := x.Put(client, stamp, r)
	is(t, "Put of "+what, kind, m.put(client, stamp, r, hasBytes))
	for i, stamp := range stampsOf(x) {
		is(t, "a stamp that falls, by "+what, stamp >= before[i], true)
	}
	client = pick(source, []uint64{client, 1, 3, 9, 200, greatest, 5})
	stamp = near(source, m, client)
	want, wantKind := m.ask(client, stamp)
	got, gotKind := x.Ask(client, stamp)
	is(t, fmt.Sprintf("Ask of %d, %d", client, stamp), gotKind, wantKind)
	sameResult(t, fmt.Sprintf("Ask of %d, %d", client, stamp), got, want)
	return kind
}

// P1205: scripts; now and then the table is cloned, or read from its bytes, and both go on by scripts of their own.
func TestP1205Scripts(t *testing.T) {
	source := rand.New(rand.NewSource(12))
	kinds := map[api.Kind]int{}
	for range 40 {
		x, m := made(t, 1, 3, 9, 200, greatest), model(atFirst(1, 3, 9, 200, greatest))
		for range 100 {
			kinds[step(t, source, x, m)]++
			switch source.Intn(10) {
			case 0:
				other, mine := x.Clone(), slices.Clone(m)
				for range 3 {
					step(t, source, other, mine)
				}
				holds(t, "the clone", other, mine)
			case 1:
				other, mine := x, slices.Clone(m)
				x, _ = session.Read(x.Bytes())
				for range 3 {
					step(t, source, other, mine)
				}
				holds(t, "what was read of", other, mine)
			}
			holds(t, "the table", x, m)
			if t.Failed() {
				return
			}
		}
	}
	for _, kind := range []api.Kind{api.OK, api.Unknown, api.Stale, api.BadArg} {
		is(t, fmt.Sprint("often enough: ", int(kind)), kinds[kind] > 100, true)
	}
}

// P1205: each stamp is answered by what was put for it, till a greater one is put; from then on it is stale.
func TestP1205EachStamp(t *testing.T) {
	x := made(t, 1, 2)
	all := results()
	for i, r := range all {
		stamp := uint64(10 * (i + 1))
		puts(t, x, 1, stamp, r)
		for _, other := range all {
			is(t, "Put again", x.Put(1, stamp, other), api.Stale)
			asks(t, "put", x, 1, stamp, r)
		}
		for past := range stamp {
			asksNot(t, "past", x, 1, past, api.Stale)
			is(t, "Put of the past", x.Put(1, past, api.Result{E: api.Stopped}), api.Stale)
		}
		asks(t, "behind all", x, 1, stamp, r)
		asks(t, "the other client", x, 2, 0, api.Result{})
	}
}

// wordsRead: what the chapter says of bytes, by the library's means, but for a result's own kind.
func wordsRead(b []byte) ([]session.Last, api.Kind) {
	wrong := api.OK
	take := func() uint64 {
		n, size := binary.Uvarint(b)
		switch {
		case wrong != api.OK:
			return 0
		case size == 0 && len(b) < 10:
			wrong = api.Short
		case size <= 0 || size > 1 && b[size-1] == 0:
			wrong = api.BadForm
		default:
			b = b[size:]
			return n
		}
		return 0
	}
	var l []session.Last
	count := take()
	if wrong == api.OK && count > 8 {
		wrong = api.TooLarge
	}
	for i := uint64(0); wrong == api.OK && i < count; i++ {
		x := session.Last{Client: take(), Stamp: take()}
		size := take()
		switch {
		case wrong != api.OK:
		case size > 65536:
			wrong = api.TooLarge
		case size > uint64(len(b)):
			wrong = api.Short
		default:
			x.R, wrong = op.ReadResult(b[:size])
			if wrong == api.OK && x.Stamp == 0 && !bytes.Equal(b[:size], []byte{0, 0, 0}) {
				wrong = api.BadArg
			}
			b = b[size:]
		}
		l = append(l, x)
	}
	if wrong == api.OK && len(b) > 0 {
		wrong = api.BadForm
	}
	rises := len(l) > 0 && l[0].Client > 0
	for i := 1; i < len(l); i++ {
		rises = rises && l[i-1].Client < l[i].Client
	}
	if wrong == api.OK && !rises {
		wrong = api.BadArg
	}
	return l, wrong
}

// readIsPut: any bytes are read as the words say, and what is read is put as it was.
func readIsPut(t *testing.T, b []byte) {
	t.Helper()
	before := bytes.Clone(b)
	want, wantKind := wordsRead(b)
	x, kind := session.Read(b)
	is(t, fmt.Sprintf("Read of %v", b), kind, wantKind)
	if kind != api.OK {
		is(t, "the table", x, nil)
	} else if wantKind == api.OK {
		same(t, "All", formOf(x.All()), formOf(want))
		same(t, "Bytes", x.Bytes(), b)
	}
	same(t, "handed in", b, before)
}

// P1204: bytes that are read are just the table's: each change at each place of a table's bytes.
func TestP1204ReadIsPut(t *testing.T) {
	for _, l := range tables() {
		form := formOf(l)
		readIsPut(t, form)
		if len(form) > 1500 {
			continue
		}
		for i := range form {
			for _, x := range []byte{0, 1, 2, 8, 9, 18, 19, 100, 101, 127, 128, 255, form[i] + 1, form[i] - 1} {
				changed := bytes.Clone(form)
				changed[i] = x
				readIsPut(t, changed)
			}
			readIsPut(t, join(form[:i], form[i+1:]))
			readIsPut(t, join(form[:i], []byte{0}, form[i:]))
			readIsPut(t, join(form[:i], []byte{128}, form[i:]))
		}
	}
}

// P1204: two changes at once, so that several things may be wrong.
func TestP1204ReadTwoChanges(t *testing.T) {
	source := rand.New(rand.NewSource(1204))
	form := formOf([]session.Last{{Client: 1, Stamp: 1, R: api.Result{More: true}}, {Client: 2}, {Client: 3, Stamp: 300, R: api.Result{E: api.Full, Cells: []api.Cell{{K: key("r", "f", "", 1)}}}}})
	kinds := map[api.Kind]int{}
	for range 50000 {
		b := bytes.Clone(form)
		for range 1 + source.Intn(3) {
			i := source.Intn(len(b))
			switch source.Intn(4) {
			case 0:
				b = slices.Delete(b, i, i+1)
			case 1:
				b = slices.Insert(b, i, byte(source.Intn(4)))
			default:
				b[i] = pick(source, []byte{0, 1, 2, 3, 4, 9, 101, 128, 255})
			}
		}
		readIsPut(t, b)
		_, kind := session.Read(b)
		kinds[kind]++
	}
	for _, kind := range []api.Kind{api.OK, api.BadArg, api.Short, api.BadForm, api.TooLarge} {
		is(t, fmt.Sprint("often enough: ", int(kind)), kinds[kind] > 300, true)
	}
}

func FuzzP1204ReadIsPut(f *testing.F) {
	for _, l := range tables() {
		f.Add(formOf(l))
	}
	f.Fuzz(func(t *testing.T, b []byte) {
		readIsPut(t, b)
	})
}
