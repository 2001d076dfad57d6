package message

import (
	"slices"

	"bulwark/api"
	"bulwark/op"
)

// The kinds, from 1 on.
const (
	request = 1 + iota
	prePrepare
	prepare
	commit
	reply
	checkpoint
	viewChange
	newView
	fetch
	state
	need
	batch
	ask
	shown
)

const (
	sumSize  = 32
	tagSize  = 32
	maxText  = 16384 // bytes of a signed text
	maxPlain = 65536 // bytes of a state's text, and of a shown one's, which nobody signs
	maxTexts = 16    // in Cert, and in each set
	maxSets  = 16
)

// shape: how much a body has of each part.
type shape struct {
	view, seq             uint64
	sum, reqs, cert, sets int
	reply                 bool
}

func shapeOf(x Body) shape {
	return shape{
		view: x.View, seq: x.Seq,
		sum: len(x.Sum), reqs: len(x.Reqs), cert: len(x.Cert), sets: len(x.Sets),
		reply: !sameReply(x.Reply, api.Reply{}),
	}
}

// shapeFor: the shape of a right body of that kind, if it is one. Where the kind leaves free how much, that is what has has, cut to the limit: one that has more has another shape.
func shapeFor(kind int, has shape) (is shape, known bool) {
	view, seq := min(has.view, api.MaxView), min(has.seq, api.MaxSeq)
	cert := min(has.cert, maxTexts)
	switch kind {
	case request, ask:
		is.reqs = 1
	case reply:
		is.reply = true
	case prePrepare, prepare, commit:
		is.view = view
		fallthrough
	case checkpoint:
		is.seq = seq
		fallthrough
	case need:
		is.sum = sumSize
	case viewChange:
		is.view, is.seq, is.cert, is.sets = view, seq, cert, min(has.sets, maxSets)
	case newView:
		is.view, is.cert, is.sets = view, cert, 1
	case state:
		is.seq, is.sum, is.cert = seq, sumSize, 1
	case shown:
		is.cert = 3
		fallthrough
	case fetch:
		is.seq = seq
	case batch:
		is.cert = min(has.cert, api.MaxBatch)
	default:
		return shape{}, false
	}
	return is, true
}

// isRight asks for the shape first, so that no more is gone through than a right body may have.
func isRight(x Body) bool {
	has := shapeOf(x)
	is, known := shapeFor(x.Kind, has)
	return known && has == is && areRequests(x) && isReplyFor(x) && areTexts(x.Cert, textFor(x.Kind)) && areSets(x.Sets)
}

func areRequests(x Body) bool {
	return !slices.ContainsFunc(x.Reqs, func(q api.Request) bool {
		_, wrong := op.Request(q)
		return wrong != api.OK || x.Kind == ask && op.Writes(q.O)
	})
}

func isReplyFor(x Body) bool {
	if x.Kind != reply {
		return true
	}
	_, wrong := op.Result(x.Reply.R)
	return wrong == api.OK && x.Reply.Client != 0 && x.Reply.Stamp != 0 && x.Reply.View <= api.MaxView
}

// textFor: what is asked of each text of a kind's Cert.
func textFor(kind int) func(Signed) bool {
	if kind == state || kind == shown {
		return isPlain
	}
	return isSigned
}

func isSigned(s Signed) bool {
	return s.From != 0 && len(s.B) <= maxText && len(s.Tag) == tagSize
}

func isPlain(s Signed) bool {
	return s.From == 0 && len(s.B) <= maxPlain && len(s.Tag) == 0
}

func areTexts(l []Signed, isText func(Signed) bool) bool {
	return !slices.ContainsFunc(l, func(s Signed) bool { return !isText(s) })
}

func areSets(sets [][]Signed) bool {
	return !slices.ContainsFunc(sets, func(set []Signed) bool {
		return len(set) > maxTexts || !areTexts(set, isSigned)
	})
}
