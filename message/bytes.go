package message

import (
	"bulwark/api"
	"bulwark/op"
	"bulwark/wire"
)

func Bytes(x Body) ([]byte, api.Kind) {
	if wrong := Right(x); wrong != api.OK {
		return nil, wrong
	}
	b := putNumbers(nil, uint64(x.Kind), x.View, x.Seq)
	b = putForm(b, x.Sum)
	b = putNumbers(b, uint64(len(x.Reqs)))
	for _, q := range x.Reqs {
		form, _ := op.Request(q)
		b = putForm(b, form)
	}
	if x.Kind == reply {
		b = putReply(b, x.Reply)
	}
	b = putTexts(b, x.Cert)
	b = putNumbers(b, uint64(len(x.Sets)))
	for _, set := range x.Sets {
		b = putTexts(b, set)
	}
	return b, api.OK
}

// Read takes no more of anything than the kind with the most of it may have; whether that is right for this one is judged behind it. All that can be wrong is BadForm here, whatever the reader says.
func Read(b []byte) (Body, api.Kind) {
	r := wire.Read(b)
	x := Body{Kind: r.Int(shown), View: r.Uint(), Seq: r.Uint(), Sum: r.Bytes(sumSize)}
	for range r.Int(1) {
		x.Reqs = append(x.Reqs, takeRequest(r))
	}
	if x.Kind == reply {
		x.Reply = takeReply(r)
	}
	x.Cert = takeTexts(r)
	for range r.Int(maxSets) {
		x.Sets = append(x.Sets, takeTexts(r))
	}
	if r.Done() != api.OK || !isRight(x) {
		return Body{}, api.BadForm
	}
	return x, api.OK
}

// putNumbers and putForm append each form by itself, since wire copies what a form is put behind: a long b would be copied for each number.
func putNumbers(b []byte, numbers ...uint64) []byte {
	for _, n := range numbers {
		b = append(b, wire.Uint(nil, n)...)
	}
	return b
}

func putForm(b, x []byte) []byte {
	return append(b, wire.Bytes(nil, x)...)
}

func putReply(b []byte, y api.Reply) []byte {
	form, _ := op.Result(y.R)
	return putForm(putNumbers(b, y.Client, y.Stamp, y.View), form)
}

func putTexts(b []byte, l []Signed) []byte {
	b = putNumbers(b, uint64(len(l)))
	for _, s := range l {
		b = putForm(putForm(putNumbers(b, s.From), s.B), s.Tag)
	}
	return b
}

// takeRequest and takeReply bound their bytes by those that are left alone: op knows how long they may be.
func takeRequest(r *wire.Reader) api.Request {
	q, wrong := op.ReadRequest(r.Bytes(r.Left()))
	r.Fail(wrong)
	return q
}

func takeReply(r *wire.Reader) api.Reply {
	y := api.Reply{Client: r.Uint(), Stamp: r.Uint(), View: r.Uint()}
	result, wrong := op.ReadResult(r.Bytes(r.Left()))
	r.Fail(wrong)
	y.R = result
	return y
}

func takeTexts(r *wire.Reader) []Signed {
	var l []Signed
	for range r.Int(maxTexts) {
		l = append(l, Signed{From: r.Uint(), B: r.Bytes(maxPlain), Tag: r.Bytes(tagSize)})
	}
	return l
}
