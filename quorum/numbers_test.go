package quorum_test

import (
	"fmt"
	"testing"

	"bulwark/api"
	"bulwark/quorum"
)

// The chapter's example.
func TestP1401Example(t *testing.T) {
	is(t, "N", quorum.N(1), 4)
	is(t, "Most", quorum.Most(1), 3)
	is(t, "Weak", quorum.Weak(1), 2)
	is(t, "the primary of view 5", quorum.Primary(5, 1), 2)
}

func TestP1401Numbers(t *testing.T) {
	want := map[int][3]int{1: {4, 3, 2}, 2: {7, 5, 3}, 3: {10, 7, 4}, api.MaxF: {13, 9, 5}}
	for f, numbers := range want {
		is(t, fmt.Sprint("of ", f), [3]int{quorum.N(f), quorum.Most(f), quorum.Weak(f)}, numbers)
	}
}

func TestP1401Impossible(t *testing.T) {
	for _, f := range impossible() {
		is(t, fmt.Sprint("of ", f), [3]int{quorum.N(f), quorum.Most(f), quorum.Weak(f)}, [3]int{})
		for _, view := range []uint64{0, 1, 3, 4, 5, 13, 1 << 63, greatest} {
			is(t, fmt.Sprint("the primary of ", view, " and ", f), quorum.Primary(view, f), 0)
		}
	}
}

// P1401: from view 0 on the primaries are 1 to N, over and over.
func TestP1401Primaries(t *testing.T) {
	for f, n := range faulty() {
		want := uint64(1)
		for view := range 5 * n {
			is(t, fmt.Sprint("the primary of ", view, " and ", f), quorum.Primary(view, f), want)
			want++
			if want > n {
				want = 1
			}
		}
	}
}

func TestP1401PrimariesAtEdges(t *testing.T) {
	// the greatest view is 2^64 - 1, whose rests by 4, 7, 10 and 13 are 3, 1, 5 and 2
	want := map[int]uint64{1: 4, 2: 2, 3: 6, 4: 3}
	for f, n := range faulty() {
		is(t, fmt.Sprint("the greatest view of ", f), quorum.Primary(greatest, f), want[f])
		for _, view := range []uint64{n - 1, n, n + 1, 1<<32 - 1, 1 << 32, api.MaxView - 1, api.MaxView, api.MaxView + 1, 1<<63 - 1, 1 << 63, greatest - 1} {
			got := quorum.Primary(view, f)
			// of whole numbers: got, and the views that it leads, are N apart
			is(t, fmt.Sprint("a replica leads ", view, " of ", f), got >= 1 && got <= n, true)
			is(t, fmt.Sprint("who leads ", view, " of ", f), (view-(got-1))%n, 0)
		}
	}
}
