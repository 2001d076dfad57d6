package session_test

import (
	"fmt"
	"slices"
	"testing"

	"bulwark/api"
	"bulwark/session"
)

func notMade(t *testing.T, clients ...uint64) {
	t.Helper()
	what := fmt.Sprint("New of ", clients)
	x, kind := session.New(clients)
	is(t, what, kind, api.BadArg)
	is(t, what+": the table", x, nil)
}

func TestP1201Made(t *testing.T) {
	for _, clients := range [][]uint64{{1}, {2}, {greatest}, {1 << 63}, {1, 2}, {1, greatest}, {101, 102}, {greatest - 1, greatest}, {1, 3, 1 << 32, 1 << 63}} {
		holds(t, fmt.Sprint(clients), made(t, clients...), atFirst(clients...))
	}
}

func TestP1201HowMany(t *testing.T) {
	notMade(t)
	x, kind := session.New([]uint64{})
	is(t, "New of an empty list", kind, api.BadArg)
	is(t, "New of an empty list: the table", x, nil)
	var clients []uint64
	for count := uint64(1); count <= 40; count++ {
		clients = append(clients, 100+count)
		if count <= api.MaxClients {
			holds(t, fmt.Sprint(count, " clients"), made(t, clients...), atFirst(clients...))
		} else {
			notMade(t, clients...)
		}
	}
	notMade(t, slices.Repeat([]uint64{1}, 9)...)
	notMade(t, slices.Repeat([]uint64{0}, 1000)...)
}

// P1201: each pair, alone and at each place among others.
func TestP1201Rise(t *testing.T) {
	numbers := []uint64{0, 1, 2, 255, 256, 1<<32 - 1, 1 << 32, 1<<63 - 1, 1 << 63, greatest - 1, greatest}
	for _, a := range numbers {
		for _, b := range numbers {
			if a > 0 && a < b {
				made(t, a, b)
			} else {
				notMade(t, a, b)
			}
		}
	}
	right := []uint64{10, 20, 30, 40, 50, 60, 70, 80}
	for i := range right {
		for j := range i {
			changed := slices.Clone(right)
			changed[i], changed[j] = right[j], right[i]
			notMade(t, changed...)
			changed = slices.Clone(right)
			changed[i] = right[j]
			notMade(t, changed...)
			changed[i], changed[j] = right[i], right[i]
			notMade(t, changed...)
		}
		changed := slices.Clone(right)
		changed[i] = 0
		notMade(t, changed...)
		notMade(t, changed[i:]...)
	}
	notMade(t, 0)
	notMade(t, 0, 1, 2)
	notMade(t, 3, 2, 1)
}

// P1201: the list that was handed in is neither changed nor kept.
func TestP1201Memory(t *testing.T) {
	whole := []uint64{3, 5, 7, 9}
	clients := whole[:2]
	x := made(t, clients...)
	y, kind := session.New(clients)
	is(t, "New", kind, api.OK)
	is(t, "handed in", fmt.Sprint(whole), "[3 5 7 9]")
	clients[0], clients[1], whole[2] = 100, 200, 300
	holds(t, "behind a change", x, atFirst(3, 5))
	holds(t, "behind a change", y, atFirst(3, 5))
	puts(t, x, 3, 1, api.Result{E: api.Full})
	is(t, "handed in, behind a Put", fmt.Sprint(whole), "[100 200 300 9]")
	holds(t, "the other table", y, atFirst(3, 5))
}
