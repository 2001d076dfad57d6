package session

import (
	"cmp"

	"bulwark/api"
	"bulwark/op"
	"bulwark/wire"
)

const maxAnswer = 65536 // bytes of a result that are read

func (t *Table) Bytes() []byte {
	if t == nil {
		return nil
	}
	b := wire.Uint(nil, uint64(len(t.entries)))
	for _, e := range t.entries {
		b = wire.Uint(b, e.client)
		b = wire.Uint(b, e.stamp)
		b = wire.Bytes(b, []byte(e.answer))
	}
	return b
}

// Read makes the reader fail with what is wrong with a client by itself, since it keeps what was wrong first: of the clients behind it, each is zero then, and what that has wrong is not told.
func Read(b []byte) (*Table, api.Kind) {
	r := wire.Read(b)
	t := &Table{}
	var clients []uint64
	for range r.Int(api.MaxClients) {
		e := entry{client: r.Uint(), stamp: r.Uint(), answer: string(r.Bytes(maxAnswer))}
		r.Fail(e.judge())
		clients = append(clients, e.client)
		t.entries = append(t.entries, e)
	}
	if wrong := cmp.Or(r.Done(), judgeClients(clients)); wrong != api.OK {
		return nil, wrong
	}
	return t, api.OK
}

// judge: whether its client may stand where it does is not its own question.
func (e entry) judge() api.Kind {
	if _, wrong := op.ReadResult([]byte(e.answer)); wrong != api.OK {
		return wrong
	}
	if e.stamp == 0 && e.answer != noAnswer() {
		return api.BadArg
	}
	return api.OK
}
