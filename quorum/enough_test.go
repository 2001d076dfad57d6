package quorum_test

import (
	"fmt"
	"testing"

	"bulwark/quorum"
)

func TestP1403Ballots(t *testing.T) {
	for name, l := range ballots() {
		for f := range faulty() {
			v := voted(t, f, l...)
			for range 2 {
				// asking changes nothing
				holds(t, fmt.Sprint(name, " of ", f), v, l)
			}
		}
	}
}

// P1403: behind each vote.
func TestP1403AsTheyCome(t *testing.T) {
	for name, l := range ballots() {
		v := made(t, 1)
		for i, b := range l {
			holds(t, fmt.Sprint(name, ", the first ", i), v, l[:i])
			adds(t, v, b)
		}
	}
}

func TestP1403WrittenOut(t *testing.T) {
	v := voted(t, 1, vote(3, "x"), vote(1, "x"), vote(4, "x"))
	is(t, "Count", v.Count([]byte("x")), 3)
	is(t, "Count of another", v.Count([]byte("y")), 0)
	is(t, "Count of nothing", v.Count(nil), 0)
	sameTexts(t, "Proof of 2", v.Proof([]byte("x"), 2), []signed{text(1), text(3)})
	sameTexts(t, "Proof of 3", v.Proof([]byte("x"), 3), []signed{text(1), text(3), text(4)})
	sameTexts(t, "Proof of 4", v.Proof([]byte("x"), 4), nil)
	sameTexts(t, "Proof of 0", v.Proof([]byte("x"), 0), nil)
	tells(t, v, 3, "x", true)
	tells(t, v, 4, "", false)
	tells(t, v, 0, "", false)
}

func tells(t *testing.T, v *quorum.Votes, n int, want string, wantHas bool) {
	t.Helper()
	word, has := v.Enough(n)
	is(t, fmt.Sprint("Enough of ", n), has, wantHas)
	same(t, fmt.Sprint("the word of ", n), word, []byte(want))
}

// P1403: of several words the one whose first voter is least, not the one that came first, nor the one with more votes, nor the lesser one.
func TestP1403Several(t *testing.T) {
	v := voted(t, 2, vote(7, "a"), vote(6, "a"), vote(5, "a"), vote(3, "b"), vote(2, "b"), vote(4, "c"), vote(1, "c"))
	tells(t, v, 1, "c", true)
	tells(t, v, 2, "c", true)
	tells(t, v, 3, "a", true)
	tells(t, v, 4, "", false)
	// 1 is no voter of the two words that are left
	v = voted(t, 2, vote(7, "a"), vote(6, "b"), vote(5, "a"), vote(4, "b"))
	tells(t, v, 1, "b", true)
	tells(t, v, 2, "b", true)
	tells(t, v, 3, "", false)
}

// P1403: who did not vote is no voter for nothing.
func TestP1403NotVoted(t *testing.T) {
	v := voted(t, 1, vote(2, "a"), vote(3, ""), vote(4, "a"))
	tells(t, v, 1, "a", true)
	is(t, "Count of nothing", v.Count(nil), 1)
	sameTexts(t, "Proof of nothing", v.Proof(nil, 1), []signed{text(3)})
	sameTexts(t, "Proof of nothing, 2", v.Proof(nil, 2), nil)
	tells(t, voted(t, 1), 1, "", false)
}

// P1403: a word of nothing may be enough, and is told as true.
func TestP1403EnoughForNothing(t *testing.T) {
	v := voted(t, 1, vote(1, ""), vote(2, ""))
	tells(t, v, 1, "", true)
	tells(t, v, 2, "", true)
	tells(t, v, 3, "", false)
}

// everyVote: each way in which replicas 1 to n each vote for one of the words, or don't.
func everyVote(n uint64, words []string) [][]ballot {
	out := [][]ballot{nil}
	for from := uint64(1); from <= n; from++ {
		for _, l := range out {
			for _, word := range words {
				out = append(out, append(l[:len(l):len(l)], vote(from, word)))
			}
		}
	}
	return out
}

// orders: each order of a list.
func orders(l []ballot) [][]ballot {
	if len(l) == 0 {
		return [][]ballot{nil}
	}
	var out [][]ballot
	for i := range l {
		rest := append(l[:i:i], l[i+1:]...)
		for _, order := range orders(rest) {
			out = append(out, append(order, l[i]))
		}
	}
	return out
}

// P1403: each vote of four replicas for three words, in each order.
func TestP1403EveryVote(t *testing.T) {
	for _, l := range everyVote(4, []string{"", "a", "ab"}) {
		for _, order := range orders(l) {
			v := voted(t, 1, order...)
			for _, word := range []string{"", "a", "ab", "b"} {
				is(t, "Count", v.Count([]byte(word)), len(textsFor(l, word)))
				for n := -1; n <= 5; n++ {
					sameTexts(t, "Proof", v.Proof([]byte(word), n), wantProof(l, word, n))
				}
			}
			for n := -1; n <= 5; n++ {
				word, has := wantEnough(l, n)
				tells(t, v, n, word, has)
			}
		}
	}
}

func TestP1403Nil(t *testing.T) {
	var v *quorum.Votes
	holds(t, "of nil", v, nil)
}

// P1403: what is told is new memory each time.
func TestP1403Memory(t *testing.T) {
	for name, l := range ballots() {
		v := voted(t, 1, l...)
		for _, b := range l {
			for n := range 5 {
				first, second := v.Proof([]byte(b.word), n), v.Proof([]byte(b.word), n)
				spoilTexts(first)
				sameTexts(t, name+": another proof", second, wantProof(l, b.word, n))
				spoilTexts(second)
				one, _ := v.Enough(n)
				two, _ := v.Enough(n)
				spoil(one)
				want, _ := wantEnough(l, n)
				same(t, name+": another word", two, []byte(want))
				spoil(two)
			}
		}
		holds(t, name, v, l)
	}
}

// P1403: no two lists of one proof share memory, spare room too.
func TestP1403ListsApart(t *testing.T) {
	l := []ballot{vote(1, "a"), vote(2, "a"), vote(3, "a"), vote(4, "a")}
	proof := voted(t, 1, l...).Proof([]byte("a"), 4)
	for i := range proof {
		spoil(proof[i].B)
		same(t, "a tag beside it", proof[i].Tag, l[i].s.Tag)
		spoil(proof[i].Tag)
		sameTexts(t, "those behind it", proof[i+1:], textsFor(l[i+1:], "a"))
	}
}

// P1403: the word that is asked for is neither changed nor kept.
func TestP1403Asked(t *testing.T) {
	l := ballots()["two and two"]
	v := voted(t, 1, l...)
	for _, asked := range []string{"a", "b", "ab", ""} {
		word, stays := roomy(t, []byte(asked))
		v.Count(word)
		proof := v.Proof(word, 1)
		stays()
		spoil(word)
		sameTexts(t, "a proof of what was changed", proof, wantProof(l, asked, 1))
		holds(t, "behind it", v, l)
	}
}
