package slots_test

import (
	"fmt"
	"slices"
	"testing"

	"bulwark/api"
)

// whose: who said the texts of the first certificate.
func (p pair) whose(t *testing.T) string {
	t.Helper()
	var from []uint64
	for _, s := range p.cert(t) {
		from = append(from, s.From)
	}
	return fmt.Sprint(from)
}

// P1503: prepared by the votes of 3 and 4; that of 2 comes behind, and counts.
func TestP1503Stands(t *testing.T) {
	p := made(t, 1)
	p.counts(t, by(prepare, 4, 1, "x"), by(pre, 1, 1, "x"), by(prepare, 3, 1, "x"))
	is(t, "prepared by 3 and 4", p.whose(t), "[1 3 4]")
	p.counts(t, by(prepare, 2, 1, "x"))
	is(t, "behind the vote of 2", p.whose(t), "[1 3 4]")
	p.refuses(t, api.Refused, by(prepare, 2, 1, "x"), by(prepare, 2, 1, "y"))
	is(t, "Prepared", p.l.Prepared(1), true)
	p.holds(t, "behind")
}

// P1503: where more than 2 f votes are there when the pre-prepare comes, the first ones of them, and not of those behind.
func TestP1503StandsOfMore(t *testing.T) {
	for _, order := range orders([]step{by(prepare, 4, 1, "x"), by(prepare, 3, 1, "x"), by(prepare, 2, 1, "x")}) {
		p := made(t, 1)
		p.counts(t, order...)
		p.counts(t, by(pre, 1, 1, "x"))
		is(t, fmt.Sprint(order), p.whose(t), "[1 2 3]")
	}
	p := made(t, 2)
	for _, from := range []uint64{7, 5, 3, 6, 4} {
		p.counts(t, by(prepare, from, 1, "x"))
	}
	p.counts(t, by(pre, 1, 1, "x"))
	is(t, "of five votes", p.whose(t), "[1 3 4 5 6]")
	p.counts(t, by(prepare, 2, 1, "x"))
	is(t, "of six votes", p.whose(t), "[1 3 4 5 6]")
	p.holds(t, "behind")
}

// behind: what may come when a number is prepared already, lesser replicas' votes among it.
func (p pair) behind(seq uint64, sum string) []step {
	out := []step{by(pre, p.m.primary(), seq, sum).again("told again"), by(pre, p.m.primary(), seq, sum+"y")}
	for from := uint64(1); from <= p.m.replicas(); from++ {
		out = append(out, by(prepare, from, seq, sum).again("behind"), by(prepare, from, seq, sum+"y"), by(commit, from, seq, sum))
	}
	return out
}

// toPreparedFalling: as toPrepared, but by the greatest replicas, so that those that are left are lesser ones.
func (p pair) toPreparedFalling(seq uint64, sum string) []step {
	out := []step{by(pre, p.m.primary(), seq, sum)}
	all := p.backups(3 * p.m.f)
	slices.Reverse(all)
	for _, from := range all[:2*p.m.f] {
		out = append(out, by(prepare, from, seq, sum))
	}
	return out
}

// P1503: nothing that comes behind in this view changes it, nor does asking, the low mark, or another number.
func TestP1503StandsInItsView(t *testing.T) {
	for f := range faulty() {
		for _, sum := range []string{"x", ""} {
			p := made(t, f)
			p.counts(t, p.toPreparedFalling(3, sum)...)
			first := p.cert(t)
			for _, x := range p.behind(3, sum) {
				p.comes(t, x)
				is(t, "behind "+x.String(), alike(p.cert(t), first), true)
			}
			_, has := p.l.Committed(3)
			is(t, "Committed", has, true)
			p.counts(t, p.toPrepared(4, "other")...)
			p.advances(t, 2, api.OK)
			is(t, "behind all", alike(p.cert(t), first), true)
			p.holds(t, fmt.Sprint("behind all, of ", f))
		}
	}
}

// P1503: prepared anew in a later view, a new one takes its place, and stands in its turn.
func TestP1503StandsAnew(t *testing.T) {
	for f, n := range faulty() {
		p := made(t, f)
		for _, view := range []uint64{0, 1, n, n + 2, api.MaxView - 1, api.MaxView} {
			if view > 0 {
				elder := p.cert(t)
				p.enters(t, view, api.OK)
				is(t, "the elder one stays", alike(p.cert(t), elder), true)
			}
			for _, x := range p.toPreparedFalling(3, "x") {
				p.counts(t, x.again(fmt.Sprint("in ", view)))
				p.holds(t, fmt.Sprint("to view ", view))
			}
			anew := p.cert(t)
			is(t, "its texts are of this view", string(anew[0].B), fmt.Sprint("in ", view))
			for _, x := range p.behind(3, "x") {
				p.comes(t, x)
				is(t, "behind "+x.String(), alike(p.cert(t), anew), true)
			}
			p.holds(t, fmt.Sprint("in view ", view))
		}
	}
}
