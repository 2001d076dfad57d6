package op

import (
	"bulwark/api"
	"bulwark/wire"
)

func Bytes(o api.Op) ([]byte, api.Kind) {
	if wrong := Right(o); wrong != api.OK {
		return nil, wrong
	}
	return putOp(nil, o), api.OK
}

func Request(q api.Request) ([]byte, api.Kind) {
	if wrong := rightRequest(q); wrong != api.OK {
		return nil, wrong
	}
	return putOp(wire.Uint(wire.Uint(nil, q.Client), q.Stamp), q.O), api.OK
}

func Result(r api.Result) ([]byte, api.Kind) {
	if wrong := rightResult(r); wrong != api.OK {
		return nil, wrong
	}
	b := wire.Uint(nil, uint64(r.E))
	b = wire.Uint(b, uint64(len(r.Cells)))
	for _, c := range r.Cells {
		b = putKey(b, c.K)
		b = wire.Bytes(b, c.Value)
		b = wire.Bool(b, c.Gone)
	}
	return wire.Bool(b, r.More), api.OK
}

// putOp: a part stands as an operation does, with a nought for the parts that it has none of, so that bytes can be told where it has some.
func putOp(b []byte, o api.Op) []byte {
	b = wire.Uint(b, uint64(o.Kind))
	b = putKey(b, o.K)
	b = putTexts(b, o.To)
	b = wire.Bytes(b, o.Value)
	b = wire.Bytes(b, o.Want)
	b = wire.Bool(b, o.Has)
	b = wire.Uint(b, uint64(len(o.Sub)))
	for _, part := range o.Sub {
		b = putOp(b, part)
	}
	return b
}

func putKey(b []byte, k api.Key) []byte {
	return wire.Uint(putTexts(b, k.Row, k.Family, k.Qual), k.Time)
}

func putTexts(b []byte, texts ...string) []byte {
	for _, text := range texts {
		b = wire.Bytes(b, []byte(text))
	}
	return b
}
