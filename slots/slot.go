package slots

import (
	"bytes"
	"slices"

	"bulwark/message"
	"bulwark/quorum"
)

// slot: what is kept under one number. Its round ends with the log's view, its certificate stays.
type slot struct {
	round
	cert certificate
}

// round: of the log's view; has: there is a pre-prepare. Sums are strings: nobody can write into what was taken or told.
type round struct {
	has               bool
	sum               string
	pre               message.Signed
	prepares, commits *quorum.Votes
}

// certificate: is: there is one; the pre-prepare's text stands first, then the votes'.
type certificate struct {
	is    bool
	view  uint64
	sum   string
	texts []message.Signed
}

// newRound is of an f that the log's New has taken, so that quorum takes it too.
func newRound(f int) round {
	prepares, _ := quorum.New(f)
	commits, _ := quorum.New(f)
	return round{prepares: prepares, commits: commits}
}

func (x *slot) certifiedIn(view uint64) bool {
	return x.cert.is && x.cert.view == view
}

func clone(s message.Signed) message.Signed {
	return message.Signed{From: s.From, B: bytes.Clone(s.B), Tag: bytes.Clone(s.Tag)}
}

func cloneAll(texts []message.Signed) []message.Signed {
	var all []message.Signed
	for s := range slices.Values(texts) {
		all = append(all, clone(s))
	}
	return all
}
