package quorum_test

import (
	"fmt"
	"math/bits"
	"math/rand"
	"slices"
	"testing"

	"bulwark/api"
	"bulwark/quorum"
)

// setsOf: each set of size replicas out of n; bit i is replica i + 1.
func setsOf(n, size int) []uint {
	var out []uint
	for set := range uint(1) << n {
		if bits.OnesCount(set) == size {
			out = append(out, set)
		}
	}
	return out
}

// P1404: two sets of Most replicas have Weak in common, of which f may be faulty.
func TestP1404InCommon(t *testing.T) {
	for f := 1; f <= api.MaxF; f++ {
		sets := setsOf(quorum.N(f), quorum.Most(f))
		is(t, fmt.Sprint("some sets of ", f), len(sets) > 1, true)
		least := quorum.N(f)
		for _, a := range sets {
			for _, b := range sets {
				least = min(least, bits.OnesCount(a&b))
			}
		}
		is(t, fmt.Sprint("the least that two sets of ", f, " have in common"), least, quorum.Weak(f))
		is(t, fmt.Sprint("one of them is not faulty, of ", f), least > f, true)
	}
}

// P1404: one less than Most would not do.
func TestP1404OneLess(t *testing.T) {
	for f := 1; f <= api.MaxF; f++ {
		sets := setsOf(quorum.N(f), quorum.Most(f)-1)
		first, last := sets[0], sets[len(sets)-1]
		is(t, fmt.Sprint("two lesser sets of ", f), bits.OnesCount(first&last) < quorum.Weak(f), true)
	}
}

// P1404: Most can be there without the faulty ones, and one more can't.
func TestP1404WithoutTheFaulty(t *testing.T) {
	for f := 1; f <= api.MaxF; f++ {
		is(t, fmt.Sprint("of ", f), quorum.N(f)-f, quorum.Most(f))
	}
}

// votesOf: the members of a set vote for a word.
func votesOf(t *testing.T, f int, set uint, word string) *quorum.Votes {
	t.Helper()
	v := made(t, f)
	for i := range quorum.N(f) {
		if set>>i&1 == 1 {
			adds(t, v, ballot{signed{From: uint64(i) + 1}, word})
		}
	}
	return v
}

// P1404: proofs of Most, of votes of their own, have Weak replicas in common.
func TestP1404Proofs(t *testing.T) {
	for f := 1; f <= 2; f++ {
		sets := setsOf(quorum.N(f), quorum.Most(f))
		for _, a := range sets {
			for _, b := range sets {
				inCommon := 0
				proof := votesOf(t, f, b, "b").Proof([]byte("b"), quorum.Most(f))
				for _, s := range votesOf(t, f, a, "a").Proof([]byte("a"), quorum.Most(f)) {
					if slices.ContainsFunc(proof, func(u signed) bool { return u.From == s.From }) {
						inCommon++
					}
				}
				is(t, fmt.Sprint("at least Weak of ", f), inCommon >= quorum.Weak(f), true)
			}
		}
	}
}

// P1404: whoever votes, and for whatever: two words never have Most; and where f are mute, one can.
func TestP1404OneWord(t *testing.T) {
	for f := 1; f <= api.MaxF; f++ {
		n := quorum.N(f)
		for set := range uint(1) << n {
			v := votesOf(t, f, set, "a")
			for i := range n {
				if set>>i&1 == 0 {
					adds(t, v, ballot{signed{From: uint64(i) + 1}, "b"})
				}
			}
			a, b := v.Count([]byte("a")), v.Count([]byte("b"))
			is(t, "all have voted", a+b, n)
			is(t, "both have Most", a >= quorum.Most(f) && b >= quorum.Most(f), false)
			_, has := v.Enough(quorum.Most(f))
			is(t, "Enough", has, a >= quorum.Most(f) || b >= quorum.Most(f))
		}
		for _, set := range setsOf(n, n-f) {
			tells(t, votesOf(t, f, set, "a"), quorum.Most(f), "a", true)
		}
	}
}

// script: replicas vote by chance, again and again, some that are none among them; the seeds are fixed, so that every run is alike.
func script(t *testing.T, source *rand.Rand, f int) {
	v := made(t, f)
	n := faulty()[f]
	var l []ballot
	some := words()[:2+source.Intn(5)]
	for range 3 * n {
		from := source.Uint64() % (n + 3)
		b := ballot{signed{From: from, B: fmt.Append(nil, source.Int()), Tag: fmt.Append(nil, source.Int())}, some[source.Intn(len(some))]}
		want := api.OK
		switch {
		case from == 0 || from > n:
			want = api.Unknown
		case slices.ContainsFunc(l, func(c ballot) bool { return c.s.From == from }):
			want = api.Refused
		default:
			l = append(l, b)
		}
		is(t, fmt.Sprint("Add of ", from), v.Add(b.s, []byte(b.word)), want)
		for _, word := range some {
			is(t, "Count", v.Count([]byte(word)), len(textsFor(l, word)))
		}
	}
	holds(t, fmt.Sprint("a script of ", f), v, l)
}

func TestP1402Scripts(t *testing.T) {
	for f := range faulty() {
		for seed := range int64(50) {
			script(t, rand.New(rand.NewSource(seed)), f)
		}
	}
}
