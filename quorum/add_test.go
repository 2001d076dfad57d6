package quorum_test

import (
	"bytes"
	"fmt"
	"testing"

	"bulwark/api"
	"bulwark/quorum"
)

func TestP1402New(t *testing.T) {
	for f := range faulty() {
		holds(t, fmt.Sprint("of ", f), made(t, f), nil)
	}
}

func TestP1402NewImpossible(t *testing.T) {
	for _, f := range impossible() {
		v, kind := quorum.New(f)
		is(t, fmt.Sprint("New of ", f), kind, api.BadArg)
		is(t, fmt.Sprint("the votes of ", f), v, nil)
	}
}

// P1402: just 1 to N are replicas.
func TestP1402Replicas(t *testing.T) {
	for f, n := range faulty() {
		var l []ballot
		v := made(t, f)
		for from := n; from >= 1; from-- {
			l = append(l, vote(from, "a"))
			adds(t, v, l[len(l)-1])
		}
		holds(t, fmt.Sprint("all of ", f), v, l)
	}
}

func TestP1402Unknown(t *testing.T) {
	for f, n := range faulty() {
		for _, from := range []uint64{0, n + 1, n + 2, 14, 255, 256, 257, 1<<32 - 1, 1 << 32, 1<<32 + 1, 1<<63 - 1, 1 << 63, 1<<63 + 1, greatest - 1, greatest} {
			what := fmt.Sprint("of ", f)
			l := []ballot{vote(1, "a"), vote(n, "b")}
			v := voted(t, f, l...)
			for range 2 {
				addsNot(t, what, v, text(from), []byte("a"), api.Unknown)
				addsNot(t, what, v, text(from), nil, api.Unknown)
			}
			holds(t, what, v, l)
			// nothing was kept that could refuse who may vote
			adds(t, v, vote(2, "a"))
			holds(t, what, v, append(l, vote(2, "a")))
		}
	}
}

// P1402: of each replica the first one counts.
func TestP1402Refused(t *testing.T) {
	for f, n := range faulty() {
		for _, from := range []uint64{1, 2, n - 1, n} {
			for _, first := range words() {
				l := []ballot{vote(from, first)}
				v := voted(t, f, l...)
				what := fmt.Sprint("a second one of ", f)
				other := signed{From: from, B: []byte("other")}
				for _, word := range []string{first, "", "a", first + "\x00", "other"} {
					addsNot(t, what, v, l[0].s, []byte(word), api.Refused)
					addsNot(t, what, v, other, []byte(word), api.Refused)
				}
				addsNot(t, what, v, signed{From: from}, nil, api.Refused)
				is(t, what+": Count", v.Count([]byte(first)), 1)
				is(t, what+": Count of another", v.Count([]byte("other")), 0)
				sameTexts(t, what, v.Proof([]byte(first), 1), []signed{l[0].s})
			}
		}
	}
}

func TestP1402RefusedChangesNothing(t *testing.T) {
	for name, l := range ballots() {
		v := voted(t, 1, l...)
		for _, b := range l {
			for _, c := range l {
				addsNot(t, name, v, signed{From: b.s.From, B: []byte("other")}, []byte(c.word), api.Refused)
			}
			addsNot(t, name, v, signed{From: b.s.From}, nil, api.Refused)
		}
		holds(t, name, v, l)
	}
}

// P1402: a vote for nothing, of a text of nothing, is one.
func TestP1402EmptyVote(t *testing.T) {
	for _, word := range [][]byte{nil, {}} {
		for _, b := range [][]byte{nil, {}} {
			v := made(t, 1)
			s := signed{From: 2, B: b, Tag: b}
			is(t, "Add", v.Add(s, word), api.OK)
			holds(t, "a vote for nothing", v, []ballot{{s, ""}})
			addsNot(t, "again", v, s, word, api.Refused)
			addsNot(t, "for a word", v, s, []byte("a"), api.Refused)
		}
	}
}

// P1402: whatever the text is: its length, and its tag's, are not asked.
func TestP1402Texts(t *testing.T) {
	v := made(t, 1)
	l := []ballot{
		{signed{From: 1, B: bytes.Repeat([]byte("b"), 1<<17), Tag: []byte{0}}, "a"},
		{signed{From: 2, Tag: make([]byte, 33)}, "a"},
		{signed{From: 3, B: []byte{0, 255}}, "a"},
		{signed{From: 4, B: make([]byte, 32), Tag: make([]byte, 32)}, "a"},
	}
	adds(t, v, l...)
	holds(t, "texts", v, l)
}

func TestP1402Nil(t *testing.T) {
	var v *quorum.Votes
	for _, from := range []uint64{0, 1, 4, 5, greatest} {
		for _, word := range []string{"", "a"} {
			addsNot(t, "of nil", v, text(from), []byte(word), api.Nil)
		}
	}
}

// P1402: votes that New did not make know no replica.
func TestP1402Zero(t *testing.T) {
	v := &quorum.Votes{}
	for _, from := range []uint64{0, 1, 4, 13, greatest} {
		addsNot(t, "of the zero votes", v, text(from), []byte("a"), api.Unknown)
	}
	holds(t, "the zero votes", v, nil)
}

// P1402: what is handed in is neither changed nor kept.
func TestP1402Memory(t *testing.T) {
	for name, l := range ballots() {
		v := made(t, 1)
		for _, b := range kept(l) {
			body, bodyStays := roomy(t, b.s.B)
			tag, tagStays := roomy(t, b.s.Tag)
			word, wordStays := roomy(t, []byte(b.word))
			s := signed{From: b.s.From, B: body, Tag: tag}
			is(t, name, v.Add(s, word), api.OK)
			addsNot(t, name, v, s, word, api.Refused)
			v.Count(word)
			spoilTexts(v.Proof(word, 1))
			bodyStays()
			tagStays()
			wordStays()
			spoil(body)
			spoil(tag)
			spoil(word)
		}
		holds(t, name, v, l)
	}
}

// P1402: a word, a text and a tag may be one memory.
func TestP1402OneMemory(t *testing.T) {
	b := []byte("abc")
	v := made(t, 1)
	for from := uint64(1); from <= 4; from++ {
		is(t, "Add", v.Add(signed{From: from, B: b, Tag: b[:2]}, b[:1]), api.OK)
	}
	spoil(b)
	var want []signed
	for from := uint64(1); from <= 4; from++ {
		want = append(want, signed{From: from, B: []byte("abc"), Tag: []byte("ab")})
	}
	sameTexts(t, "one memory", v.Proof([]byte("a"), 4), want)
}

// P1402: votes of their own share nothing, even where they were copied.
func TestP1402Apart(t *testing.T) {
	a, b := made(t, 1), made(t, 1)
	adds(t, a, vote(1, "a"))
	holds(t, "the other votes", b, nil)
	adds(t, b, vote(1, "b"), vote(2, "a"))
	holds(t, "the first votes", a, []ballot{vote(1, "a")})
	copied := *a
	adds(t, &copied, vote(2, "a"), vote(3, "c"))
	holds(t, "what was copied", a, []ballot{vote(1, "a")})
	holds(t, "the copy", &copied, []ballot{vote(1, "a"), vote(2, "a"), vote(3, "c")})
}
