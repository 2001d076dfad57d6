package slots_test

import (
	"fmt"
	"testing"

	"bulwark/api"
	"bulwark/slots"
)

func TestP1504Advance(t *testing.T) {
	for f := range faulty() {
		for _, low := range []uint64{1, 2, 4, 8, 9, 1 << 32, api.MaxSeq - api.Window - 8, api.MaxSeq - api.Window - 7} {
			for up := range uint64(9) {
				p := made(t, f)
				p.advances(t, low-1, api.OK)
				for seq := low; seq < low+8; seq++ {
					p.counts(t, p.toCommitted(seq, fmt.Sprint("sum of ", seq))...)
				}
				p.advances(t, low-1+up, api.OK)
				is(t, "Low", p.l.Low(), low-1+up)
				is(t, "View", p.l.View(), 0)
				is(t, "certificates", len(p.l.Certs()), int(8-up))
				p.holds(t, fmt.Sprint("above ", low-1+up, " of ", f))
			}
		}
	}
}

// P1504: far ahead, all slots are gone.
func TestP1504Far(t *testing.T) {
	for _, low := range []uint64{9, 16, 17, 1 << 32, api.MaxSeq - api.Window} {
		p := made(t, 1)
		for seq := uint64(1); seq <= 8; seq++ {
			p.counts(t, p.toCommitted(seq, "x")...)
		}
		p.enters(t, 2, api.OK)
		p.advances(t, low, api.OK)
		is(t, "View", p.l.View(), 2)
		is(t, "certificates", len(p.l.Certs()), 0)
		p.counts(t, p.toPrepared(low+1, "y")...)
		p.holds(t, fmt.Sprint("above ", low))
	}
}

// P1504: the low mark itself leaves all as it is.
func TestP1504Itself(t *testing.T) {
	for _, low := range []uint64{0, 1, 4, api.MaxSeq - api.Window} {
		p := made(t, 1)
		p.advances(t, low, api.OK)
		for seq := low + 1; seq <= low+8; seq++ {
			p.counts(t, p.toCommitted(seq, "x")...)
		}
		for range 2 {
			p.advances(t, low, api.OK)
			is(t, "certificates", len(p.l.Certs()), 8)
			p.holds(t, fmt.Sprint("to ", low, " itself"))
		}
	}
}

func TestP1504BadSeq(t *testing.T) {
	for _, low := range []uint64{0, 1, 4, 9, 1 << 32, api.MaxSeq - api.Window - 1, api.MaxSeq - api.Window} {
		p := made(t, 1)
		p.advances(t, low, api.OK)
		p.counts(t, p.toCommitted(low+1, "x")...)
		p.counts(t, by(pre, 1, low+8, "y"))
		for _, bad := range []uint64{api.MaxSeq - api.Window + 1, api.MaxSeq - 1, api.MaxSeq, api.MaxSeq + 1, 1 << 63, greatest - 8, greatest - 7, greatest} {
			p.advances(t, bad, api.BadSeq)
			p.holds(t, fmt.Sprint("not to ", bad))
		}
		for below := range min(low, 10) {
			p.advances(t, below, api.BadSeq)
			p.advances(t, low-1-below, api.BadSeq)
			p.holds(t, "not below")
		}
	}
}

// P1504: a log that stands at the end takes the last numbers, and no others.
func TestP1504End(t *testing.T) {
	p := made(t, 1)
	p.counts(t, p.toCommitted(8, "x")...)
	p.advances(t, api.MaxSeq-api.Window, api.OK)
	p.holds(t, "at the end")
	p.refuses(t, api.BadSeq, by(pre, 1, api.MaxSeq-api.Window, "x"), by(pre, 1, api.MaxSeq+1, "x"), by(pre, 1, 8, "x"))
	p.counts(t, p.toCommitted(api.MaxSeq, "x")...)
	sum, has := p.l.Committed(api.MaxSeq)
	is(t, "Committed", has, true)
	same(t, "Committed's sum", sum, []byte("x"))
	p.holds(t, "the last one")
}

// P1504: slots above the low mark keep their pre-prepares and votes, and those that come in sight have none.
func TestP1504Stays(t *testing.T) {
	p := made(t, 1)
	p.counts(t, by(pre, 1, 4, "x"), by(prepare, 2, 4, "x"), by(pre, 1, 5, "x"), by(prepare, 2, 5, "x"), by(commit, 1, 5, "x"), by(commit, 2, 5, "x"))
	p.advances(t, 4, api.OK)
	p.refuses(t, api.BadSeq, by(prepare, 3, 4, "x"))
	p.refuses(t, api.Refused, by(pre, 1, 5, "y"), by(prepare, 2, 5, "x"), by(commit, 1, 5, "x"))
	p.counts(t, by(prepare, 4, 5, "x"))
	is(t, "Prepared", p.l.Prepared(5), true)
	p.counts(t, by(commit, 4, 5, "x"))
	_, has := p.l.Committed(5)
	is(t, "Committed", has, true)
	for seq := uint64(9); seq <= 12; seq++ {
		p.counts(t, p.toPrepared(seq, "new")...)
	}
	p.holds(t, "behind")
}

// P1504: certificates of elder views go with their slots, and stay with the others.
func TestP1504Certificates(t *testing.T) {
	p := made(t, 2)
	for seq := uint64(1); seq <= 8; seq++ {
		p.counts(t, p.toPrepared(seq, fmt.Sprint("sum of ", seq))...)
	}
	p.enters(t, 3, api.OK)
	for low := uint64(1); low <= 8; low++ {
		p.advances(t, low, api.OK)
		is(t, "certificates", len(p.l.Certs()), int(8-low))
		_, _, has := p.l.Best(low)
		is(t, "Best of the low mark", has, false)
		p.holds(t, fmt.Sprint("above ", low))
	}
	p.advances(t, 0, api.BadSeq)
	p.holds(t, "there is no way back")
}

func TestP1504Nil(t *testing.T) {
	var l *slots.Log
	for _, low := range []uint64{0, 1, api.MaxSeq - api.Window, api.MaxSeq, greatest} {
		is(t, fmt.Sprint("Advance to ", low), l.Advance(low), api.Nil)
	}
}
