package session_test

import (
	"fmt"
	"testing"

	"bulwark/api"
	"bulwark/session"
)

// The chapter's example.
func TestP1202Example(t *testing.T) {
	for _, r := range results() {
		x := made(t, 1)
		puts(t, x, 1, 5, r)
		asks(t, "the example", x, 1, 5, r)
		asksNot(t, "the example", x, 1, 4, api.Stale)
	}
}

// P1202: ahead of any Put the last stamp is 0, and what was answered to it the zero result.
func TestP1202AheadOfAnyPut(t *testing.T) {
	x := made(t, 1, 7, greatest)
	for _, client := range []uint64{1, 7, greatest} {
		asks(t, "at first", x, client, 0, api.Result{})
		for _, stamp := range []uint64{1, 2, 1 << 32, 1 << 63, greatest} {
			asksNot(t, "at first", x, client, stamp, api.Missing)
		}
	}
}

func TestP1202Stamps(t *testing.T) {
	stamps := []uint64{0, 1, 2, 127, 128, 1<<32 - 1, 1 << 32, 1<<63 - 1, 1 << 63, greatest - 1, greatest}
	for _, put := range stamps[1:] {
		x := made(t, 3, 5)
		puts(t, x, 5, put, api.Result{E: api.Refused})
		for _, stamp := range append(stamps, put-1, put+1) {
			what := fmt.Sprint("behind ", put)
			switch {
			case stamp < put:
				asksNot(t, what, x, 5, stamp, api.Stale)
			case stamp > put:
				asksNot(t, what, x, 5, stamp, api.Missing)
			default:
				asks(t, what, x, 5, stamp, api.Result{E: api.Refused})
			}
		}
		asks(t, "the other client", x, 3, 0, api.Result{})
		asksNot(t, "the other client", x, 3, put, api.Missing)
	}
}

func TestP1202Unknown(t *testing.T) {
	x := made(t, 2, 4)
	puts(t, x, 2, 9, api.Result{E: api.Full})
	for _, client := range []uint64{0, 1, 3, 5, 258, 1<<63 + 2, 1<<32 + 4, greatest} {
		for _, stamp := range []uint64{0, 1, 8, 9, 10, greatest} {
			asksNot(t, "of none", x, client, stamp, api.Unknown)
		}
	}
}

// P1202: a result that tells an error is an answer.
func TestP1202Errors(t *testing.T) {
	x := made(t, 1)
	for e := api.OK; e <= api.Refused; e++ {
		puts(t, x, 1, uint64(e)+1, api.Result{E: e})
		asks(t, "an error", x, 1, uint64(e)+1, api.Result{E: e})
	}
}

func TestP1202EachClient(t *testing.T) {
	l := tables()["eight kinds"]
	x := laid(t, l)
	for _, a := range l {
		for _, b := range l {
			switch {
			case a.Stamp == b.Stamp:
				asks(t, "each", x, a.Client, b.Stamp, a.R)
			case b.Stamp < a.Stamp:
				asksNot(t, "each", x, a.Client, b.Stamp, api.Stale)
			default:
				asksNot(t, "each", x, a.Client, b.Stamp, api.Missing)
			}
		}
	}
}

func TestP1202ChangesNothing(t *testing.T) {
	for name, l := range tables() {
		x := laid(t, l)
		for range 2 {
			// holds asks for what is there and for what is not
			holds(t, name, x, l)
		}
	}
}

// P1202: what was answered is new memory each time.
func TestP1202Memory(t *testing.T) {
	for name, l := range tables() {
		x := laid(t, l)
		for _, client := range l {
			first, _ := x.Ask(client.Client, client.Stamp)
			second, _ := x.Ask(client.Client, client.Stamp)
			spoil(&first)
			sameResult(t, name+": another answer", second, client.R)
			spoil(&second)
		}
		holds(t, name, x, l)
	}
}

// P1202: no two values of one answer share memory, spare room too.
func TestP1202ListsApart(t *testing.T) {
	x := made(t, 1)
	puts(t, x, 1, 1, full())
	r, _ := x.Ask(1, 1)
	for i := range r.Cells {
		value := r.Cells[i].Value
		for j := range value[:cap(value)] {
			value[:cap(value)][j] = byte(i)
		}
		for j := i + 1; j < len(r.Cells); j++ {
			same(t, "a value behind it", r.Cells[j].Value, []byte(long(256)))
		}
		for j := range i {
			is(t, "a value ahead of it", r.Cells[j].Value[0], byte(j))
		}
	}
}

func TestP1202Nil(t *testing.T) {
	var x *session.Table
	for _, client := range []uint64{0, 1, greatest} {
		for _, stamp := range []uint64{0, 1, greatest} {
			asksNot(t, "of nil", x, client, stamp, api.Nil)
		}
	}
}

// P1202: a table that New did not make knows nobody.
func TestP1202Zero(t *testing.T) {
	x := &session.Table{}
	holds(t, "the zero table", x, nil)
	is(t, "Put", x.Put(1, 1, api.Result{}), api.Unknown)
	holds(t, "its clone", x.Clone(), nil)
}
