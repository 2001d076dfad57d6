package slots_test

import (
	"fmt"
	"math/rand"
	"testing"

	"bulwark/api"
	"bulwark/slots"
)

// place: a number in a view.
type place struct{ view, seq uint64 }

// laws: what was seen of a log, from its beginning on.
type laws struct {
	prepared, committed map[place]string
	views               map[uint64]uint64
}

func newLaws() laws {
	return laws{map[place]string{}, map[place]string{}, map[uint64]uint64{}}
}

// hold: they hold behind what came; all is asked of the log alone.
func (w laws) hold(t *testing.T, l *slots.Log) {
	t.Helper()
	for _, seq := range asked(l.Low()) {
		sum, has := l.Sum(seq)
		done, is := l.Committed(seq)
		view, _, best := l.Best(seq)
		if outside := seq <= l.Low() || seq-l.Low() > api.Window; outside && (has || is || best || l.Prepared(seq)) {
			t.Errorf("a slot of %d outside the marks", seq)
		}
		at := place{l.View(), seq}
		if l.Prepared(seq) {
			once(t, w.prepared, at, string(sum))
		}
		if is {
			once(t, w.committed, at, string(done))
		}
		if best && view < w.views[seq] || view > l.View() {
			t.Errorf("the certificate of %d: view %d behind %d, in %d", seq, view, w.views[seq], l.View())
		}
		w.views[seq] = max(w.views[seq], view)
	}
	is(t, "no more certificates than a window has", len(l.Certs()) <= api.Window, true)
}

// once: of one place one sum.
func once(t *testing.T, seen map[place]string, at place, sum string) {
	t.Helper()
	if was, has := seen[at]; has && was != sum {
		t.Errorf("two sums at %v: %q and %q", at, was, sum)
	}
	seen[at] = sum
}

// chance: a step of a few sums and numbers about the marks, mostly one that may be taken.
func chance(source *rand.Rand, m *model) step {
	some := []string{"x", "x", "x", "y", "", "xy"}
	from := source.Uint64() % (m.replicas() + 2)
	if source.Intn(3) == 0 {
		from = m.primary()
	}
	x := by(kinds()[source.Intn(3)], from, m.low+source.Uint64()%11, some[source.Intn(len(some))])
	if x.seq > m.low && source.Intn(4) > 0 {
		x.seq = m.low + 1 + source.Uint64()%2
	}
	return x.again(fmt.Sprint(source.Int()))
}

// script: texts come by chance, views and marks change at times; the seeds are fixed, so that every run is alike.
func script(t *testing.T, source *rand.Rand, f int) {
	p, w := made(t, f), newLaws()
	for range 60 * f {
		switch source.Intn(40) {
		case 0:
			view := p.m.view + source.Uint64()%4
			is(t, "Enter", p.l.Enter(view), p.m.enters(view))
		case 1:
			low := p.m.low + source.Uint64()%4 - 1
			is(t, "Advance", p.l.Advance(low), p.m.advances(low))
		default:
			p.comes(t, chance(source, p.m))
		}
		w.hold(t, p.l)
		p.holds(t, fmt.Sprint("a script of ", f))
	}
}

func TestP1505Scripts(t *testing.T) {
	for f := range faulty() {
		for seed := range int64(25) {
			script(t, rand.New(rand.NewSource(seed)), f)
		}
	}
}

// P1505: a primary that tells two sums, and replicas that vote for both: one at most is committed in a view.
func TestP1505TwoSums(t *testing.T) {
	for f, n := range faulty() {
		for _, first := range []string{"x", "y"} {
			p, w := made(t, f), newLaws()
			for view := range n + 1 {
				if view > 0 {
					p.enters(t, view, api.OK)
				}
				for _, sum := range []string{first, "x", "y", first} {
					for _, x := range p.toCommitted(1, sum) {
						p.comes(t, x)
						w.hold(t, p.l)
					}
				}
				for from := uint64(1); from <= n; from++ {
					p.comes(t, by(prepare, from, 1, "y"), by(commit, from, 1, "y"))
					w.hold(t, p.l)
				}
				is(t, "what was committed", w.committed[place{view, 1}], first)
				p.holds(t, fmt.Sprint("in view ", view, " of ", f))
			}
			is(t, "in each view one", len(w.committed), int(n)+1)
		}
	}
}

// P1505: a number that went below the low mark never comes back, so that no other sum is committed there.
func TestP1505NoWayBack(t *testing.T) {
	p, w := made(t, 1), newLaws()
	p.counts(t, p.toCommitted(1, "x")...)
	w.hold(t, p.l)
	p.advances(t, 1, api.OK)
	p.advances(t, 0, api.BadSeq)
	for _, x := range p.toCommitted(1, "y") {
		p.refuses(t, api.BadSeq, x)
		w.hold(t, p.l)
	}
}

// P1505: certificates' views never fall, nor do they go ahead of the log's.
func TestP1505Views(t *testing.T) {
	p, w := made(t, 1), newLaws()
	for _, view := range []uint64{1, 4, 5, 1 << 40, api.MaxView - 1, api.MaxView} {
		p.enters(t, view, api.OK)
		p.counts(t, p.toPrepared(1+view%3, "x")...)
		p.enters(t, view-1, api.OldView)
		p.comes(t, p.toPrepared(7, "y")[:2]...)
		w.hold(t, p.l)
		p.holds(t, fmt.Sprint("in view ", view))
	}
}

// A log that New did not make ends its calls too.
func TestP1505Zero(t *testing.T) {
	l := &slots.Log{}
	for range 2 {
		for _, kind := range kinds() {
			for _, from := range []uint64{0, 1, 2, 5, greatest} {
				for _, seq := range []uint64{0, 1, 8, 9, greatest} {
					tell(l, kind, signed{From: from}, seq, nil)
				}
			}
		}
		for _, seq := range asked(0) {
			l.Sum(seq)
			l.Prepared(seq)
			l.Committed(seq)
			l.Best(seq)
		}
		is(t, "Certs", len(l.Certs()), 0)
		l.Enter(1)
		l.Advance(1)
	}
}
