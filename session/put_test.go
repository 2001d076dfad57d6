package session_test

import (
	"fmt"
	"testing"

	"bulwark/api"
	"bulwark/session"
)

// putsNot: why not, and the table is as it was.
func putsNot(t *testing.T, what string, x *session.Table, client, stamp uint64, r api.Result, want api.Kind, as []session.Last) {
	t.Helper()
	what = fmt.Sprintf("%s: Put of %d, %d", what, client, stamp)
	is(t, what, x.Put(client, stamp, r), want)
	holds(t, what, x, as)
}

func TestP1203Put(t *testing.T) {
	for _, r := range results() {
		for i, client := range []uint64{1, 101, greatest} {
			for _, stamp := range []uint64{1, 2, 128, 1 << 63, greatest} {
				l := atFirst(1, 101, greatest)
				x := made(t, 1, 101, greatest)
				puts(t, x, client, stamp, r)
				l[i].Stamp, l[i].R = stamp, r
				holds(t, fmt.Sprintf("%d, %d", client, stamp), x, l)
			}
		}
	}
}

// P1203: each takes the place of the one ahead of it, whatever both have.
func TestP1203Again(t *testing.T) {
	for _, first := range results() {
		for _, second := range results() {
			x := made(t, 1, 2)
			puts(t, x, 2, 6, first)
			puts(t, x, 2, 7, second)
			holds(t, "two", x, []session.Last{{Client: 1}, {Client: 2, Stamp: 7, R: second}})
		}
	}
}

func TestP1203Stale(t *testing.T) {
	other := api.Result{E: api.Stopped, Cells: cells(3), More: true}
	for _, last := range []uint64{1, 2, 5, 128, 1 << 63, greatest} {
		l := []session.Last{{Client: 1}, {Client: 2, Stamp: last, R: api.Result{Cells: cells(1)}}, {Client: 3}}
		x := laid(t, l)
		for _, stamp := range []uint64{0, 1, last / 2, last - 1, last} {
			if stamp <= last {
				putsNot(t, "not above", x, 2, stamp, other, api.Stale, l)
			}
		}
		putsNot(t, "the same again", x, 2, last, l[1].R, api.Stale, l)
		if last < greatest {
			puts(t, x, 2, last+1, other)
			l[1].Stamp, l[1].R = last+1, other
			holds(t, "just above", x, l)
		}
	}
}

// P1203: stamp 0 is not above the last one of a client that was answered nothing yet.
func TestP1203StampZero(t *testing.T) {
	l := atFirst(1, 2)
	x := made(t, 1, 2)
	for _, r := range results() {
		putsNot(t, "at first", x, 1, 0, r, api.Stale, l)
	}
	puts(t, x, 1, 1, api.Result{E: api.Full})
	l[0].Stamp, l[0].R = 1, api.Result{E: api.Full}
	putsNot(t, "of the other", x, 2, 0, api.Result{}, api.Stale, l)
	putsNot(t, "behind 1", x, 1, 0, api.Result{}, api.Stale, l)
}

// P1203: behind the greatest stamp there is none.
func TestP1203GreatestStamp(t *testing.T) {
	l := []session.Last{{Client: 7, Stamp: greatest, R: full()}}
	x := laid(t, l)
	for _, stamp := range []uint64{0, 1, greatest - 1, greatest} {
		putsNot(t, "behind the greatest", x, 7, stamp, api.Result{}, api.Stale, l)
	}
}

func TestP1203Unknown(t *testing.T) {
	l := []session.Last{{Client: 2, Stamp: 4, R: api.Result{Cells: cells(1)}}, {Client: 4}}
	x := laid(t, l)
	for _, client := range []uint64{0, 1, 3, 5, 258, 1<<63 + 2, 1<<32 + 4, greatest} {
		for _, stamp := range []uint64{0, 1, 4, 5, greatest} {
			putsNot(t, "of none", x, client, stamp, api.Result{E: api.Full}, api.Unknown, l)
		}
	}
}

func TestP1203BadArg(t *testing.T) {
	l := []session.Last{{Client: 1, Stamp: 4, R: api.Result{Cells: cells(2), More: true}}, {Client: 2}}
	x := laid(t, l)
	for name, r := range noResults() {
		for _, stamp := range []uint64{5, 6, greatest} {
			putsNot(t, name, x, 1, stamp, r, api.BadArg, l)
			putsNot(t, name, x, 2, stamp, r, api.BadArg, l)
		}
		putsNot(t, name, x, 2, 1, r, api.BadArg, l)
	}
	puts(t, x, 2, 1, full())
}

// P1203: which kind is told where several apply.
func TestP1203Several(t *testing.T) {
	l := []session.Last{{Client: 1, Stamp: 4, R: api.Result{E: api.Missing}}, {Client: 2}}
	x := laid(t, l)
	var none *session.Table
	for name, r := range noResults() {
		for _, stamp := range []uint64{0, 1, 4, 5, greatest} {
			putsNot(t, name, x, 9, stamp, r, api.Unknown, l)
			is(t, name+", of nil", none.Put(1, stamp, r), api.Nil)
			is(t, name+", of nil", none.Put(0, stamp, r), api.Nil)
		}
		for _, stamp := range []uint64{0, 1, 3, 4} {
			putsNot(t, name, x, 1, stamp, r, api.Stale, l)
		}
		putsNot(t, name, x, 2, 0, r, api.Stale, l)
	}
}

func TestP1203Nil(t *testing.T) {
	var x *session.Table
	for _, client := range []uint64{0, 1, greatest} {
		for _, stamp := range []uint64{0, 1, greatest} {
			is(t, "Put of nil", x.Put(client, stamp, api.Result{}), api.Nil)
		}
	}
}

// P1203: what was put is neither changed nor kept, spare room too.
func TestP1203Memory(t *testing.T) {
	for _, want := range results() {
		r := roomy(want)
		before := seen(r)
		x := made(t, 1)
		puts(t, x, 1, 3, r)
		l := []session.Last{{Client: 1, Stamp: 3, R: want}}
		holds(t, "put", x, l)
		is(t, "handed in", seen(r), before)
		spoil(&r)
		holds(t, "behind a change", x, l)
	}
	for name, r := range noResults() {
		r = roomy(r)
		before := seen(r)
		made(t, 1).Put(1, 3, r)
		is(t, name, seen(r), before)
	}
}
