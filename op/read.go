package op

import (
	"cmp"

	"bulwark/api"
	"bulwark/wire"
)

const (
	maxCode = 100 // the greatest Kind or E that is read; whether it is one is judged behind all else
	noParts = 0   // how many a part may have
)

func Read(b []byte) (api.Op, api.Kind) {
	r := wire.Read(b)
	o := takeOp(r, api.MaxOps)
	if wrong := cmp.Or(r.Done(), Right(o)); wrong != api.OK {
		return api.Op{}, wrong
	}
	return o, api.OK
}

func ReadRequest(b []byte) (api.Request, api.Kind) {
	r := wire.Read(b)
	q := api.Request{Client: r.Uint(), Stamp: r.Uint(), O: takeOp(r, api.MaxOps)}
	if wrong := cmp.Or(r.Done(), rightRequest(q)); wrong != api.OK {
		return api.Request{}, wrong
	}
	return q, api.OK
}

func ReadResult(b []byte) (api.Result, api.Kind) {
	r := wire.Read(b)
	x := api.Result{E: api.Kind(r.Int(maxCode))}
	for range r.Int(api.MaxScan) {
		x.Cells = append(x.Cells, api.Cell{K: takeKey(r), Value: r.Bytes(api.MaxValue), Gone: r.Bool()})
	}
	x.More = r.Bool()
	if wrong := cmp.Or(r.Done(), rightResult(x)); wrong != api.OK {
		return api.Result{}, wrong
	}
	return x, api.OK
}

// takeOp goes on behind a fault, since the reader keeps what was wrong first: of the parts that are left, each is zero then.
func takeOp(r *wire.Reader, mostParts int) api.Op {
	o := api.Op{Kind: r.Int(maxCode), K: takeKey(r), To: takeText(r)}
	o.Value = r.Bytes(api.MaxValue)
	o.Want = r.Bytes(api.MaxValue)
	o.Has = r.Bool()
	parts := r.Int(mostParts)
next:
	if len(o.Sub) == parts {
		return o
	}
	o.Sub = append(o.Sub, takeOp(r, noParts))
	goto next
}

func takeKey(r *wire.Reader) api.Key {
	return api.Key{Row: takeText(r), Family: takeText(r), Qual: takeText(r), Time: r.Uint()}
}

func takeText(r *wire.Reader) string {
	return string(r.Bytes(api.MaxName))
}
