package quorum_test

import (
	"bytes"
	"fmt"
	"math"
	"strings"
	"testing"

	"bulwark/api"
	"bulwark/message"
	"bulwark/quorum"
)

type signed = message.Signed

const greatest = math.MaxUint64

func is[T comparable](t *testing.T, what string, got, want T) {
	t.Helper()
	if got != want {
		t.Errorf("%s: %#v, not %#v", what, got, want)
	}
}

func same(t *testing.T, what string, got, want []byte) {
	t.Helper()
	if !bytes.Equal(got, want) {
		t.Errorf("%s: %.100q, not %.100q", what, got, want)
	}
}

func sameTexts(t *testing.T, what string, got, want []signed) {
	t.Helper()
	if len(got) != len(want) {
		t.Errorf("%s: %d texts, not %d", what, len(got), len(want))
		return
	}
	for i := range got {
		is(t, fmt.Sprint(what, ": From ", i), got[i].From, want[i].From)
		same(t, fmt.Sprint(what, ": B ", i), got[i].B, want[i].B)
		same(t, fmt.Sprint(what, ": Tag ", i), got[i].Tag, want[i].Tag)
	}
}

// faulty: each f that can be, and how many replicas there are.
func faulty() map[int]uint64 {
	return map[int]uint64{1: 4, 2: 7, 3: 10, 4: 13}
}

// impossible: f that can't be.
func impossible() []int {
	return []int{0, 5, 6, -1, -4, 255, 256, 257, 1 << 32, 1<<32 + 1, 1<<63 - 1, -1 << 63, -1<<63 + 1, math.MaxInt/3 + 1, math.MaxInt / 2}
}

// ballot: one vote.
type ballot struct {
	s    signed
	word string
}

// text: a signed text that no other replica has.
func text(from uint64) signed {
	return signed{From: from, B: fmt.Append(nil, "text of ", from), Tag: fmt.Append(nil, "tag of ", from)}
}

func vote(from uint64, word string) ballot {
	return ballot{text(from), word}
}

func made(t *testing.T, f int) *quorum.Votes {
	t.Helper()
	v, kind := quorum.New(f)
	if v == nil || kind != api.OK {
		t.Fatalf("New of %d: %v, %v", f, v, kind)
	}
	return v
}

func adds(t *testing.T, v *quorum.Votes, l ...ballot) {
	t.Helper()
	for _, b := range l {
		is(t, fmt.Sprintf("Add of %d and %.40q", b.s.From, b.word), v.Add(b.s, []byte(b.word)), api.OK)
	}
}

func addsNot(t *testing.T, what string, v *quorum.Votes, s signed, word []byte, want api.Kind) {
	t.Helper()
	is(t, fmt.Sprintf("%s: Add of %d and %.40q", what, s.From, word), v.Add(s, word), want)
}

func voted(t *testing.T, f int, l ...ballot) *quorum.Votes {
	t.Helper()
	v := made(t, f)
	adds(t, v, l...)
	return v
}

// textsFor: the chapter's words over a plain list, in whatever order it is: replicas are gone through from 1 on.
func textsFor(l []ballot, word string) []signed {
	var out []signed
	for from := uint64(1); from <= 13; from++ {
		for _, b := range l {
			if b.s.From == from && b.word == word {
				out = append(out, b.s)
			}
		}
	}
	return out
}

func wantProof(l []ballot, word string, n int) []signed {
	texts := textsFor(l, word)
	if n < 1 || len(texts) < n {
		return nil
	}
	return texts[:n]
}

func wantEnough(l []ballot, n int) (string, bool) {
	word, least := "", uint64(greatest)
	for _, b := range l {
		texts := textsFor(l, b.word)
		if n >= 1 && len(texts) >= n && texts[0].From < least {
			word, least = b.word, texts[0].From
		}
	}
	return word, least < greatest
}

// words: some begin one another; that of nothing stands for nil too.
func words() []string {
	sum := strings.Repeat("s", 32)
	return []string{"", "\x00", "\x00\x00", "a", "ab", "abc", "b", "a\x00", "\xff", "\xff\xfe", "é", sum, sum[:31], sum + "s", strings.Repeat("w", 70000), strings.Repeat("w", 69999) + "v"}
}

// counts: of how many may be asked.
func counts() []int {
	return []int{math.MinInt, math.MinInt + 1, -1 << 32, -13, -1, 0, 1, 2, 3, 4, 5, 6, 7, 8, 9, 10, 11, 12, 13, 14, 255, 256, 257, 1 << 32, 1<<32 + 1, math.MaxInt - 1, math.MaxInt}
}

// holds: all that can be asked of votes is as the words say of that list.
func holds(t *testing.T, what string, v *quorum.Votes, l []ballot) {
	t.Helper()
	asked := words()
	for _, b := range l {
		asked = append(asked, b.word, b.word+"\x00")
	}
	for _, word := range asked {
		is(t, fmt.Sprintf("%s: Count of %.40q", what, word), v.Count([]byte(word)), len(textsFor(l, word)))
		for _, n := range counts() {
			sameTexts(t, fmt.Sprintf("%s: Proof of %.40q, %d", what, word, n), v.Proof([]byte(word), n), wantProof(l, word, n))
		}
	}
	is(t, what+": Count of nil", v.Count(nil), len(textsFor(l, "")))
	for _, n := range counts() {
		sameTexts(t, fmt.Sprint(what, ": Proof of nil, ", n), v.Proof(nil, n), wantProof(l, "", n))
		word, has := v.Enough(n)
		wantWord, wantHas := wantEnough(l, n)
		is(t, fmt.Sprint(what, ": Enough of ", n), has, wantHas)
		same(t, fmt.Sprint(what, ": the word of ", n), word, []byte(wantWord))
	}
}

// ballots: votes of four replicas, of many kinds.
func ballots() map[string][]ballot {
	long := strings.Repeat("w", 70000)
	return map[string][]ballot{
		"nothing":           nil,
		"one":               {vote(1, "a")},
		"the last one":      {vote(4, "a")},
		"one for nothing":   {vote(2, "")},
		"all for one":       {vote(1, "a"), vote(2, "a"), vote(3, "a"), vote(4, "a")},
		"all, falling":      {vote(4, "a"), vote(3, "a"), vote(2, "a"), vote(1, "a")},
		"all for nothing":   {vote(3, ""), vote(1, ""), vote(4, ""), vote(2, "")},
		"three of four":     {vote(3, "a"), vote(1, "a"), vote(4, "a")},
		"each its own":      {vote(4, "a"), vote(3, "b"), vote(2, ""), vote(1, "ab")},
		"two and two":       {vote(4, "a"), vote(3, "b"), vote(2, "a"), vote(1, "b")},
		"two first":         {vote(3, "a"), vote(4, "a"), vote(1, "b"), vote(2, "b")},
		"nothing, and last": {vote(4, ""), vote(3, ""), vote(2, "a")},
		"one, then nothing": {vote(2, "a"), vote(4, ""), vote(3, "a")},
		"begin one another": {vote(1, "abc"), vote(2, "ab"), vote(3, "a"), vote(4, "ab")},
		"long":              {vote(4, long), vote(1, long[:69999]+"v"), vote(2, long), vote(3, long[:69999])},
		"noughts":           {vote(1, "\x00"), vote(2, "\x00\x00"), vote(3, "\x00"), vote(4, "")},
	}
}

// kept: l in memory of its own, so that what a test writes over leaves l.
func kept(l []ballot) []ballot {
	var out []ballot
	for _, b := range l {
		s := signed{From: b.s.From, B: bytes.Clone(b.s.B), Tag: bytes.Clone(b.s.Tag)}
		out = append(out, ballot{s, b.word})
	}
	return out
}

// spoil: writes over all of some memory, spare room too.
func spoil(b []byte) {
	b = b[:cap(b)]
	for i := range b {
		b[i] ^= 0xff
	}
}

func spoilTexts(l []signed) {
	for _, s := range l {
		spoil(s.B)
		spoil(s.Tag)
	}
	l = l[:cap(l)]
	for i := range l {
		l[i] = signed{From: 99}
	}
}

// roomy: b in memory with spare room behind it, and a check that all of it is still as it was.
func roomy(t *testing.T, b []byte) ([]byte, func()) {
	t.Helper()
	whole := append(bytes.Clone(b), bytes.Repeat([]byte{0xa5}, 100)...)
	before := bytes.Clone(whole)
	return whole[:len(b)], func() {
		t.Helper()
		same(t, "what was handed in, and its spare room", whole, before)
	}
}
