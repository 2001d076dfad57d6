package slots_test

import (
	"fmt"
	"slices"
	"testing"

	"bulwark/api"
	"bulwark/slots"
)

// The chapter's example.
func TestP1503Example(t *testing.T) {
	p := made(t, 1)
	p.counts(t, by(pre, 1, 1, "x"), by(prepare, 2, 1, "x"))
	is(t, "one prepare", p.l.Prepared(1), false)
	p.counts(t, by(prepare, 3, 1, "x"))
	is(t, "two prepares", p.l.Prepared(1), true)
	p.holds(t, "the example")
}

func TestP1503WrittenOut(t *testing.T) {
	p := made(t, 1)
	texts := []step{by(pre, 1, 5, "x"), by(prepare, 4, 5, "x"), by(prepare, 2, 5, "x")}
	p.counts(t, texts...)
	sum, has := p.l.Sum(5)
	is(t, "Sum", has, true)
	same(t, "Sum's sum", sum, []byte("x"))
	_, has = p.l.Committed(5)
	is(t, "Committed", has, false)
	view, sum, has := p.l.Best(5)
	is(t, "Best", has && view == 0, true)
	same(t, "Best's sum", sum, []byte("x"))
	is(t, "certificates", len(p.l.Certs()), 1)
	is(t, "the pre-prepare's text, then the votes', rising", alike(p.cert(t), []signed{texts[0].s, texts[2].s, texts[1].s}), true)
	p.counts(t, by(commit, 4, 5, "x"), by(commit, 1, 5, "x"), by(commit, 3, 5, "x"))
	sum, has = p.l.Committed(5)
	is(t, "Committed of three", has, true)
	same(t, "Committed's sum", sum, []byte("x"))
	p.holds(t, "written out")
}

// P1503: 2 f votes, and one less; Most, and one less.
func TestP1503HowMany(t *testing.T) {
	for f := range faulty() {
		for _, view := range []uint64{0, 1, 5, api.MaxView} {
			p := made(t, f)
			if view > 0 {
				p.enters(t, view, api.OK)
			}
			steps := p.toCommitted(2, "x")
			for i, x := range steps {
				p.counts(t, x)
				is(t, fmt.Sprint("Prepared behind ", i), p.l.Prepared(2), i >= 2*f)
				_, has := p.l.Committed(2)
				is(t, fmt.Sprint("Committed behind ", i), has, i == len(steps)-1)
				p.holds(t, fmt.Sprint("behind ", i, " of ", f))
			}
			is(t, "the pre-prepare's text", alike(p.cert(t)[:1], []signed{steps[0].s}), true)
		}
	}
}

// P1503: votes for another sum than the pre-prepare's make nothing of it.
func TestP1503OtherSums(t *testing.T) {
	for f, n := range faulty() {
		p := made(t, f)
		for from := uint64(1); from <= n; from++ {
			if from > 1 {
				p.counts(t, by(prepare, from, 1, "y"))
			}
			p.counts(t, by(commit, from, 1, "y"), by(commit, from, 2, "y"))
		}
		p.holds(t, "without a pre-prepare")
		p.counts(t, by(pre, 1, 1, "x"))
		p.holds(t, "with one of another sum")
		// prepared for x, but all commits are for y
		p.counts(t, p.toPrepared(2, "x")...)
		is(t, "Prepared", p.l.Prepared(2), true)
		_, has := p.l.Committed(2)
		is(t, "Committed", has, false)
		p.holds(t, "with prepares")
	}
}

// P1503: votes may come ahead of the pre-prepare; of more than 2 f of them the certificate has the first ones.
func TestP1503Ahead(t *testing.T) {
	for f, n := range faulty() {
		for _, falling := range []bool{false, true} {
			p := made(t, f)
			var votes []step
			for from := uint64(2); from <= n; from++ {
				votes = append(votes, by(prepare, from, 1, "x"))
			}
			want := []signed{by(pre, 1, 1, "x").s}
			for _, x := range votes[:2*f] {
				want = append(want, x.s)
			}
			if falling {
				slices.Reverse(votes)
			}
			for from := n; from >= 1; from-- {
				votes = append(votes, by(commit, from, 1, "x"))
			}
			for _, x := range votes {
				p.counts(t, x)
				p.holds(t, "ahead of the pre-prepare")
			}
			p.counts(t, by(pre, 1, 1, "x"))
			_, has := p.l.Committed(1)
			is(t, "Committed", has, true)
			is(t, "the first 2 f texts", alike(p.cert(t), want), true)
			p.holds(t, "with the pre-prepare")
		}
	}
}

// P1503: the certificate's votes are those for its sum alone.
func TestP1503Between(t *testing.T) {
	p := made(t, 2)
	p.counts(t, by(prepare, 2, 1, "y"), by(prepare, 4, 1, "y"), by(prepare, 7, 1, "x"), by(prepare, 3, 1, "x"), by(prepare, 6, 1, "x"), by(pre, 1, 1, "x"))
	p.holds(t, "one less")
	p.counts(t, by(prepare, 5, 1, "x"))
	var from []uint64
	for _, s := range p.cert(t) {
		from = append(from, s.From)
	}
	is(t, "who is in the certificate", fmt.Sprint(from), "[1 3 5 6 7]")
	p.holds(t, "prepared")
}

// P1503: prepared and committed, in each order of what comes.
func TestP1503Orders(t *testing.T) {
	enough := []step{by(pre, 1, 3, "x"), by(prepare, 2, 3, "x"), by(prepare, 4, 3, "x"), by(commit, 1, 3, "x"), by(commit, 2, 3, "x"), by(commit, 3, 3, "x")}
	more := []step{by(pre, 1, 3, "x"), by(prepare, 2, 3, "x"), by(prepare, 3, 3, "x"), by(prepare, 4, 3, "x"), by(commit, 2, 3, "y"), by(commit, 4, 3, "x")}
	torn := []step{by(pre, 1, 3, "x"), by(pre, 1, 3, "y"), by(prepare, 2, 3, "x"), by(prepare, 3, 3, "x"), by(prepare, 2, 3, "y"), by(prepare, 4, 3, "y")}
	for _, steps := range [][]step{enough, more, torn} {
		for _, order := range orders(steps) {
			p := made(t, 1)
			for _, x := range order {
				p.comes(t, x)
				p.holdsOf(t, fmt.Sprint(order), 3)
				p.holdsCerts(t, fmt.Sprint(order))
			}
			p.holdsOf(t, "beside it", 2)
		}
	}
}

// orders: each order of a list.
func orders(l []step) [][]step {
	if len(l) == 0 {
		return [][]step{nil}
	}
	var out [][]step
	for i := range l {
		for _, order := range orders(append(l[:i:i], l[i+1:]...)) {
			out = append(out, append(order, l[i]))
		}
	}
	return out
}

// P1503: a certificate of an elder view is the best one till the number is prepared again.
func TestP1503PreparedAgain(t *testing.T) {
	for f, n := range faulty() {
		for _, sum := range []string{"x", "y", ""} {
			p := made(t, f)
			p.counts(t, p.toPrepared(4, "x")...)
			for _, view := range []uint64{2, n, n + 3, api.MaxView} {
				was, _, _ := p.l.Best(4)
				p.enters(t, view, api.OK)
				for _, x := range p.toPrepared(4, sum) {
					got, _, has := p.l.Best(4)
					is(t, "the elder view", has && got == was, true)
					p.counts(t, x.again(fmt.Sprint("in ", view)))
					p.holds(t, fmt.Sprint("in view ", view))
				}
				got, best, has := p.l.Best(4)
				is(t, "this view", has && got == view, true)
				same(t, "Best's sum", best, []byte(sum))
				is(t, "certificates", len(p.l.Certs()), 1)
			}
		}
	}
}

// P1503: not prepared again, it is there however many views go by, and is not of what did not suffice.
func TestP1503NotPreparedAgain(t *testing.T) {
	p := made(t, 1)
	p.counts(t, p.toCommitted(4, "x")...)
	before := p.cert(t)
	for view := uint64(1); view <= 9; view++ {
		p.enters(t, view, api.OK)
		steps := p.toCommitted(4, "y")
		p.counts(t, append(steps[:2], steps[3:]...)...)
		p.holds(t, fmt.Sprint("in view ", view))
		is(t, "the certificate", alike(p.cert(t), before), true)
	}
}

// P1503: numbers without a certificate are left out; the others rise, whenever they were prepared.
func TestP1503CertsRise(t *testing.T) {
	p := made(t, 1)
	p.advances(t, 1<<32-3, api.OK)
	for _, up := range []uint64{7, 2, 8, 5, 1} {
		p.counts(t, p.toPrepared(p.m.low+up, fmt.Sprint("sum of ", up))...)
		p.holds(t, fmt.Sprint("with ", up))
	}
	p.counts(t, by(pre, 1, p.m.low+3, "x"), by(prepare, 2, p.m.low+3, "x"), by(prepare, 2, p.m.low+4, "x"), by(commit, 2, p.m.low+6, "x"))
	p.enters(t, 1, api.OK)
	p.counts(t, p.toPrepared(p.m.low+5, "again")...)
	p.counts(t, p.toPrepared(p.m.low+4, "new")...)
	is(t, "certificates", len(p.l.Certs()), 6)
	p.holds(t, "in view 1")
}

// P1503: asking changes nothing, of whatever number.
func TestP1503Asking(t *testing.T) {
	p := made(t, 1)
	p.counts(t, p.toCommitted(1, "x")...)
	p.counts(t, by(pre, 1, 2, "y"), by(prepare, 2, 3, "z"))
	for range 3 {
		p.holds(t, "asked")
	}
}

func TestP1503Nil(t *testing.T) {
	var l *slots.Log
	for _, seq := range asked(0) {
		for _, ask := range []func(uint64) ([]byte, bool){l.Sum, l.Committed} {
			sum, has := ask(seq)
			is(t, "of nil", has || len(sum) > 0, false)
		}
		is(t, "Prepared of nil", l.Prepared(seq), false)
		view, sum, has := l.Best(seq)
		is(t, "Best of nil", has || view > 0 || len(sum) > 0, false)
	}
	is(t, "Certs of nil", len(l.Certs()), 0)
}

// P1503: what is told is new memory each time.
func TestP1503Memory(t *testing.T) {
	p := made(t, 1)
	for seq := uint64(1); seq <= 3; seq++ {
		p.counts(t, p.toCommitted(seq, fmt.Sprint("a sum of ", seq))...)
	}
	for _, view := range []uint64{1, 2} {
		for seq := uint64(1); seq <= 3; seq++ {
			sum, _ := p.l.Sum(seq)
			spoil(sum)
			sum, _ = p.l.Committed(seq)
			spoil(sum)
			_, sum, _ = p.l.Best(seq)
			spoil(sum)
		}
		for _, texts := range p.l.Certs() {
			spoilTexts(texts)
		}
		certs := p.l.Certs()
		certs = certs[:cap(certs)]
		clear(certs)
		p.holds(t, "behind what was told")
		p.enters(t, view, api.OK)
		p.counts(t, p.toPrepared(2, "again")...)
		p.holds(t, "in another view")
	}
}

// P1503: no two lists of one answer share memory, spare room too.
func TestP1503ListsApart(t *testing.T) {
	p := made(t, 1)
	p.counts(t, p.toPrepared(1, "x")...)
	p.counts(t, p.toPrepared(2, "x")...)
	got, want := p.l.Certs(), p.l.Certs()
	for i, texts := range got {
		for j, s := range texts {
			spoil(s.B)
			same(t, "the tag beside it", s.Tag, want[i][j].Tag)
			spoil(s.Tag)
			is(t, "those behind it", alike(texts[j+1:], want[i][j+1:]), true)
		}
		spoilTexts(texts)
		for k := i + 1; k < len(got); k++ {
			is(t, "another certificate", alike(got[k], want[k]), true)
		}
	}
}
