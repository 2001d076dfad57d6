package slots_test

import (
	"fmt"
	"slices"
	"testing"

	"bulwark/api"
	"bulwark/slots"
)

func TestP1501New(t *testing.T) {
	for f := range faulty() {
		p := made(t, f)
		is(t, "Low", p.l.Low(), 0)
		is(t, "View", p.l.View(), 0)
		is(t, "certificates", len(p.l.Certs()), 0)
		p.holds(t, fmt.Sprint("new, of ", f))
	}
}

func TestP1501NewImpossible(t *testing.T) {
	for _, f := range impossible() {
		l, kind := slots.New(f)
		is(t, fmt.Sprint("New of ", f), kind, api.BadArg)
		is(t, fmt.Sprint("the log of ", f), l, nil)
	}
}

func TestP1501Enter(t *testing.T) {
	for f := range faulty() {
		p := made(t, f)
		views := []uint64{1, 2, 3, 7, 100, 1 << 32, 1<<32 + 1, api.MaxView - 1, api.MaxView}
		for i, view := range views {
			p.enters(t, view, api.OK)
			is(t, "View", p.l.View(), view)
			for _, old := range views[:i+1] {
				p.enters(t, old, api.OldView)
			}
			p.enters(t, 0, api.OldView)
			p.enters(t, view-1, api.OldView)
			p.holds(t, fmt.Sprint("in view ", view, " of ", f))
		}
	}
}

// P1501: what is above MaxView is told as that, whatever the log's view is.
func TestP1501EnterStopped(t *testing.T) {
	for _, view := range []uint64{0, 1, api.MaxView - 1, api.MaxView} {
		p := made(t, 1)
		if view > 0 {
			p.enters(t, view, api.OK)
		}
		for _, above := range []uint64{api.MaxView + 1, api.MaxView + 2, 1 << 63, greatest - 1, greatest} {
			p.enters(t, above, api.Stopped)
			p.holds(t, fmt.Sprint("behind Enter of ", above))
		}
		p.enters(t, view, api.OldView)
		p.holds(t, fmt.Sprint("still in ", view))
	}
}

// P1501: a view that is not entered leaves pre-prepares and votes.
func TestP1501EnterRefused(t *testing.T) {
	p := made(t, 1)
	p.enters(t, 5, api.OK)
	p.counts(t, p.toCommitted(1, "x")...)
	p.counts(t, p.toPrepared(2, "y")...)
	p.counts(t, by(pre, 2, 3, "z"), by(prepare, 1, 4, "w"), by(commit, 1, 5, "v"))
	for _, view := range []uint64{0, 4, 5} {
		p.enters(t, view, api.OldView)
		p.holds(t, "behind an old view")
	}
	p.enters(t, api.MaxView+1, api.Stopped)
	p.holds(t, "behind a view that can't be")
	p.refuses(t, api.Refused, by(prepare, 1, 4, "w"), by(commit, 1, 5, "v"), by(pre, 2, 3, "other"))
}

// P1501: in a new view no slot has a pre-prepare or votes.
func TestP1501EnterForgets(t *testing.T) {
	for f, n := range faulty() {
		p := made(t, f)
		p.counts(t, by(pre, 1, 1, "x"), by(pre, 1, 2, "x"))
		for _, from := range p.backups(2*f - 1) {
			p.counts(t, by(prepare, from, 1, "x"), by(prepare, from, 3, "x"))
		}
		for from := uint64(1); from <= n; from++ {
			p.counts(t, by(commit, from, 1, "x"), by(commit, from, 4, "x"))
		}
		p.enters(t, n, api.OK)
		is(t, "certificates", len(p.l.Certs()), 0)
		p.holds(t, "in the new view")
		// replica 1 leads it too, and whoever voted may do so again
		p.counts(t, by(pre, 1, 1, "y"), by(pre, 1, 2, "x"))
		for _, from := range p.backups(2*f - 1) {
			p.counts(t, by(prepare, from, 1, "y"), by(prepare, from, 3, "x"))
			p.holds(t, "one less than 2 f")
		}
		for from := uint64(1); from <= n; from++ {
			p.counts(t, by(commit, from, 1, "y"))
		}
		p.counts(t, by(prepare, n, 1, "y"))
		sum, has := p.l.Committed(1)
		is(t, "Committed", has, true)
		same(t, "Committed's sum", sum, []byte("y"))
		p.holds(t, "committed in the new view")
	}
}

// P1501: certificates stay, with their views, sums and texts.
func TestP1501CertificatesStay(t *testing.T) {
	for f := range faulty() {
		p := made(t, f)
		p.counts(t, p.toCommitted(8, "x")...)
		p.counts(t, p.toPrepared(1, "y")...)
		for _, view := range []uint64{1, 2, 9, api.MaxView} {
			before := p.l.Certs()
			p.enters(t, view, api.OK)
			is(t, "Prepared", p.l.Prepared(8), false)
			is(t, "the same certificates", slices.EqualFunc(p.l.Certs(), before, alike), true)
			is(t, "certificates", len(before), 2)
			got, sum, has := p.l.Best(8)
			is(t, "Best", has, true)
			is(t, "Best's view", got, 0)
			same(t, "Best's sum", sum, []byte("x"))
			p.holds(t, fmt.Sprint("in view ", view))
		}
	}
}

// P1501: of nil.
func TestP1501Nil(t *testing.T) {
	var l *slots.Log
	is(t, "Low", l.Low(), 0)
	is(t, "View", l.View(), 0)
	for _, view := range []uint64{0, 1, api.MaxView, api.MaxView + 1, greatest} {
		is(t, fmt.Sprint("Enter of ", view), l.Enter(view), api.Nil)
	}
}

// P1501: logs share nothing.
func TestP1501Apart(t *testing.T) {
	p, q := made(t, 1), made(t, 1)
	p.counts(t, p.toCommitted(1, "x")...)
	q.holds(t, "the other log")
	q.counts(t, q.toPrepared(1, "y")...)
	q.enters(t, 3, api.OK)
	q.advances(t, 4, api.OK)
	p.holds(t, "the first log")
	q.holds(t, "the other log, behind")
}
