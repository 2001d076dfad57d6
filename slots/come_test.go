package slots_test

import (
	"bytes"
	"fmt"
	"testing"

	"bulwark/api"
	"bulwark/slots"
)

// P1502: of each kind, between the marks alone.
func TestP1502BadSeq(t *testing.T) {
	for f := range faulty() {
		for _, low := range []uint64{0, 1, 4, 5, 1 << 32, api.MaxSeq - api.Window - 1, api.MaxSeq - api.Window} {
			p := made(t, f)
			p.advances(t, low, api.OK)
			var out []step
			for _, seq := range []uint64{0, low - 1, low, low + 9, low + 10, low + 16, low + 1<<32, greatest - 1, greatest} {
				for _, from := range []uint64{0, 1, 2, greatest} {
					out = append(out, by(pre, from, seq, "x"), by(prepare, from, seq, "x"), by(commit, from, seq, "x"))
				}
			}
			p.refuses(t, api.BadSeq, out...)
			for seq := low + 1; seq <= low+8; seq++ {
				p.counts(t, by(pre, 1, seq, "x"), by(prepare, 2, seq, "x"), by(commit, 1, seq, "x"))
			}
			p.holds(t, fmt.Sprint("above ", low))
			p.refuses(t, api.BadSeq, out...)
		}
	}
}

func TestP1502Unknown(t *testing.T) {
	for f, n := range faulty() {
		for _, view := range []uint64{0, 3, api.MaxView} {
			p := made(t, f)
			if view > 0 {
				p.enters(t, view, api.OK)
			}
			p.counts(t, by(pre, p.m.primary(), 2, "x"))
			for _, from := range []uint64{0, n + 1, n + 2, 14, 255, 256, 257, 1 << 32, 1<<32 + 1, 1<<63 + 1, greatest - 1, greatest} {
				for _, kind := range kinds() {
					for _, sum := range []string{"", "x", "y"} {
						p.refuses(t, api.Unknown, by(kind, from, 1, sum), by(kind, from, 2, sum), by(kind, from, 8, sum))
					}
				}
			}
		}
	}
}

// P1502: of the view's primary alone.
func TestP1502Primary(t *testing.T) {
	for f, n := range faulty() {
		p := made(t, f)
		for view := range 2*n + 1 {
			if view > 0 {
				p.enters(t, view, api.OK)
			}
			primary := view%n + 1
			for from := uint64(1); from <= n; from++ {
				if from != primary {
					p.refuses(t, api.Refused, by(pre, from, 1, "x"), by(pre, from, 8, ""))
				}
			}
			p.counts(t, by(pre, primary, 1, "x"))
			p.refuses(t, api.Refused, by(prepare, primary, 1, "x"), by(prepare, primary, 1, "y"), by(prepare, primary, 2, "x"))
			p.counts(t, by(commit, primary, 1, "x"), by(commit, primary, 2, "x"))
			// now that there is one, neither another replica's of its sum
			p.refuses(t, api.Refused, by(pre, primary%n+1, 1, "x"), by(pre, primary%n+1, 1, "y"))
			p.holds(t, fmt.Sprint("in view ", view, " of ", f))
		}
	}
}

// P1502: who was refused as the primary may prepare where it does not lead.
func TestP1502PrimaryBehind(t *testing.T) {
	p := made(t, 1)
	p.refuses(t, api.Refused, by(prepare, 1, 1, "x"), by(pre, 2, 1, "x"))
	p.enters(t, 1, api.OK)
	p.counts(t, by(pre, 2, 1, "x"), by(prepare, 1, 1, "x"), by(prepare, 3, 1, "x"))
	is(t, "Prepared", p.l.Prepared(1), true)
	p.refuses(t, api.Refused, by(prepare, 2, 1, "x"), by(pre, 1, 1, "x"))
}

// P1502: a pre-prepare that comes twice: the first text is the one that it has.
func TestP1502PreAgain(t *testing.T) {
	for _, sum := range sums() {
		p := made(t, 1)
		first := by(pre, 1, 3, sum)
		p.counts(t, first)
		for _, text := range []string{"", "other", "another"} {
			p.counts(t, first.again(text))
			p.holds(t, "again")
		}
		for _, other := range []string{sum + "\x00", sum + "s", "other"} {
			p.refuses(t, api.Refused, by(pre, 1, 3, other))
		}
		p.counts(t, by(prepare, 2, 3, sum), by(prepare, 4, 3, sum))
		p.counts(t, first.again("behind"))
		is(t, "the first text", alike(p.cert(t)[:1], []signed{first.s}), true)
		p.refuses(t, api.Refused, by(pre, 1, 3, sum+"s"))
		is(t, "Prepared", p.l.Prepared(3), true)
	}
}

// P1502: a slot has a pre-prepare of its own.
func TestP1502Slots(t *testing.T) {
	p := made(t, 1)
	for seq := uint64(1); seq <= 8; seq++ {
		sum := fmt.Sprint("sum of ", seq)
		p.counts(t, p.toCommitted(seq, sum)...)
		p.refuses(t, api.Refused, by(pre, 1, seq, "x"), by(prepare, 2, seq, sum), by(commit, 1, seq, sum))
	}
	is(t, "certificates", len(p.l.Certs()), 8)
}

// P1502: of each replica the first vote counts, of each kind by itself.
func TestP1502VotesOnce(t *testing.T) {
	for f, n := range faulty() {
		for _, first := range []string{"x", "", "y"} {
			p := made(t, f)
			p.counts(t, by(pre, 1, 1, "x"))
			for from := uint64(1); from <= n; from++ {
				if from > 1 {
					p.counts(t, by(prepare, from, 1, first))
				}
				p.counts(t, by(commit, from, 1, first))
			}
			p.holds(t, fmt.Sprint("all voted for ", first))
			for from := uint64(1); from <= n; from++ {
				for _, sum := range []string{first, "x", "y", ""} {
					p.refuses(t, api.Refused, by(prepare, from, 1, sum), by(commit, from, 1, sum).again("other"))
				}
			}
			is(t, "Prepared", p.l.Prepared(1), first == "x")
		}
	}
}

// P1502: a second vote for the right sum is not the one that is missing.
func TestP1502VoteChanged(t *testing.T) {
	p := made(t, 1)
	p.counts(t, by(pre, 1, 1, "x"), by(prepare, 2, 1, "y"), by(prepare, 3, 1, "x"), by(commit, 4, 1, "y"))
	p.refuses(t, api.Refused, by(prepare, 2, 1, "x"), by(prepare, 3, 1, "x"), by(commit, 4, 1, "x"))
	is(t, "Prepared", p.l.Prepared(1), false)
	p.counts(t, by(prepare, 4, 1, "x"), by(commit, 1, 1, "x"), by(commit, 2, 1, "x"))
	_, has := p.l.Committed(1)
	is(t, "Committed", has, false)
	p.counts(t, by(commit, 3, 1, "x"))
	_, has = p.l.Committed(1)
	is(t, "Committed of three", has, true)
	p.holds(t, "behind")
}

// P1502: votes of one number, or kind, bar none of another.
func TestP1502VotesApart(t *testing.T) {
	p := made(t, 1)
	p.counts(t, by(prepare, 2, 1, "x"), by(commit, 2, 1, "x"), by(prepare, 2, 2, "x"), by(commit, 2, 2, "y"))
	p.refuses(t, api.Refused, by(prepare, 2, 1, "x"), by(commit, 2, 1, "x"), by(prepare, 2, 2, "y"), by(commit, 2, 2, "y"))
	p.counts(t, by(pre, 1, 1, "x"), by(prepare, 3, 2, "x"))
	is(t, "Prepared", p.l.Prepared(1), false)
	p.holds(t, "behind")
}

// P1502: which kind is told where several apply.
func TestP1502Order(t *testing.T) {
	var none *slots.Log
	p := made(t, 1)
	p.counts(t, by(pre, 1, 1, "x"), by(prepare, 2, 1, "x"), by(commit, 2, 1, "x"))
	for _, kind := range kinds() {
		for _, from := range []uint64{0, 1, 2, 5, greatest} {
			for _, seq := range []uint64{0, 1, 9, greatest} {
				is(t, "of nil", tell(none, kind, signed{From: from}, seq, []byte("y")), api.Nil)
			}
			p.refuses(t, api.BadSeq, by(kind, from, 0, "y"), by(kind, from, 9, "y"), by(kind, from, greatest, "y"))
		}
		p.refuses(t, api.Unknown, by(kind, 0, 1, "y"), by(kind, 5, 1, "y"), by(kind, greatest, 1, "y"))
		p.refuses(t, api.Refused, by(kind, 2, 1, "y"))
	}
	p.refuses(t, api.Refused, by(pre, 2, 2, "y"), by(pre, 1, 1, "y"), by(prepare, 1, 1, "y"), by(prepare, 1, 2, "y"))
}

// P1502: whatever the texts and sums are: no length is asked.
func TestP1502Texts(t *testing.T) {
	for _, sum := range append(sums(), string(bytes.Repeat([]byte("b"), 1<<17))) {
		p := made(t, 1)
		long := step{pre, signed{From: 1, B: bytes.Repeat([]byte("b"), 1<<17), Tag: []byte{0}}, 1, sum}
		bare := step{prepare, signed{From: 2}, 1, sum}
		wide := step{prepare, signed{From: 3, B: []byte{0, 255}, Tag: make([]byte, 33)}, 1, sum}
		p.counts(t, long, bare, wide)
		p.holds(t, "texts")
	}
}

// P1502: nil and empty are one sum.
func TestP1502EmptySum(t *testing.T) {
	p := made(t, 1)
	for i, sum := range [][]byte{nil, {}, nil, {}} {
		is(t, "Pre", p.l.Pre(signed{From: 1}, 1, sum), api.OK)
		is(t, "Commit", p.l.Commit(signed{From: uint64(i) + 1}, 1, sum), api.OK)
	}
	is(t, "Pre of another", p.l.Pre(signed{From: 1}, 1, []byte{0}), api.Refused)
	is(t, "Prepare", p.l.Prepare(signed{From: 2}, 1, nil), api.OK)
	is(t, "Prepare again", p.l.Prepare(signed{From: 2}, 1, []byte{}), api.Refused)
	is(t, "Prepare of another one", p.l.Prepare(signed{From: 3}, 1, []byte{}), api.OK)
	for _, ask := range []func(uint64) ([]byte, bool){p.l.Sum, p.l.Committed} {
		sum, has := ask(1)
		is(t, "it is there", has, true)
		is(t, "its length", len(sum), 0)
	}
	view, sum, has := p.l.Best(1)
	is(t, "Best", has && view == 0 && len(sum) == 0, true)
	is(t, "its texts", len(p.cert(t)), 3)
}

// P1502: what is handed in is neither changed nor kept.
func TestP1502Memory(t *testing.T) {
	p := made(t, 1)
	steps := append(p.toCommitted(1, "x"), by(pre, 1, 1, "x").again("again"), by(pre, 1, 1, "y"), by(prepare, 2, 1, "y"), by(prepare, 4, 2, "z"), by(pre, 2, 2, "z"))
	for _, x := range steps {
		body, bodyStays := roomy(t, x.s.B)
		tag, tagStays := roomy(t, x.s.Tag)
		sum, sumStays := roomy(t, []byte(x.sum))
		is(t, x.String(), tell(p.l, x.kind, signed{From: x.s.From, B: body, Tag: tag}, x.seq, sum), p.m.takes(x))
		bodyStays()
		tagStays()
		sumStays()
		spoil(body)
		spoil(tag)
		spoil(sum)
		p.holds(t, "behind "+x.String())
	}
	p.enters(t, 1, api.OK)
	p.holds(t, "in another view")
}

// P1502: a sum, a text and a tag may be one memory.
func TestP1502OneMemory(t *testing.T) {
	p := made(t, 1)
	b := []byte("abc")
	for from := uint64(1); from <= 3; from++ {
		kind := prepare
		if from == 1 {
			kind = pre
		}
		p.m.takes(step{kind, signed{From: from, B: []byte("abc"), Tag: []byte("ab")}, 1, "a"})
		is(t, kind, tell(p.l, kind, signed{From: from, B: b, Tag: b[:2]}, 1, b[:1]), api.OK)
	}
	spoil(b)
	p.holds(t, "one memory")
}
