package choose

import (
	"bytes"
	"slices"

	"bulwark/api"
	"bulwark/message"
	"bulwark/quorum"
)

// Kinds of messages.
const (
	prePrepare = 2
	prepare    = 3
	checkpoint = 6
	viewChange = 7
)

// hearing: of one view change, ahead of a judge.
type hearing struct {
	f int
	j Judge
}

// vouched hands the judge memory of its own, so that what is read is what was asked, whatever it writes there; one that panics has not checked.
func (h hearing) vouched(s message.Signed) (is bool) {
	defer func() { _ = recover() }()
	return isReplica(h.f, s.From) && h.j.Check(s.From, bytes.Clone(s.B), bytes.Clone(s.Tag))
}

func bodyOf(kind int, b []byte) (message.Body, bool) {
	x, wrong := message.Read(b)
	return x, wrong == api.OK && x.Kind == kind
}

func (h hearing) right(kind int, s message.Signed) (message.Body, bool) {
	if !h.vouched(s) {
		return message.Body{}, false
	}
	return bodyOf(kind, s.B)
}

// agreed: what all of some texts of a kind say, by replicas that rise.
func (h hearing) agreed(kind int, texts []message.Signed) (message.Body, bool) {
	var what message.Body
	last := uint64(0)
	for i, s := range texts {
		x, is := h.right(kind, s)
		if !is || s.From <= last || i > 0 && !message.Same(x, what) {
			return message.Body{}, false
		}
		what, last = x, s.From
	}
	return what, true
}

// lowSum: of the state at the low mark, as its checkpoints prove it. At 0 there is nothing to prove.
func (h hearing) lowSum(x message.Body) ([]byte, bool) {
	if x.Seq == 0 {
		return nil, len(x.Cert) == 0
	}
	if len(x.Cert) != quorum.Most(h.f) {
		return nil, false
	}
	what, is := h.agreed(checkpoint, x.Cert)
	return what.Sum, is && what.Seq == x.Seq
}

func (h hearing) prepared(x message.Body) ([]Pre, bool) {
	var pres []Pre
	last := x.Seq
	for _, set := range x.Sets {
		p, is := h.certified(set)
		if !is || p.View >= x.View || p.Seq <= last || p.Seq-x.Seq > api.Window {
			return nil, false
		}
		pres = append(pres, p)
		last = p.Seq
	}
	return pres, true
}

// certified: what a certificate shows to be prepared.
func (h hearing) certified(set []message.Signed) (Pre, bool) {
	if len(set) != 1+2*h.f {
		return Pre{}, false
	}
	first, is := h.right(prePrepare, set[0])
	if !is || set[0].From != quorum.Primary(first.View, h.f) {
		return Pre{}, false
	}
	votes := set[1:]
	byPrimary := func(s message.Signed) bool { return s.From == set[0].From }
	what, is := h.agreed(prepare, votes)
	if !is || slices.ContainsFunc(votes, byPrimary) || !sameSlot(first, what) {
		return Pre{}, false
	}
	return Pre{Seq: first.Seq, View: first.View, Sum: first.Sum}, true
}

func sameSlot(a, b message.Body) bool {
	return a.View == b.View && a.Seq == b.Seq && bytes.Equal(a.Sum, b.Sum)
}
