package op_test

import (
	"bytes"
	"math/rand"
	"testing"

	"bulwark/api"
	"bulwark/op"
)

// readIsPut: what is read of any bytes is put as it was, by each of the three.
func readIsPut(t *testing.T, b []byte) {
	t.Helper()
	before := bytes.Clone(b)
	if o, kind := op.Read(b); kind == api.OK {
		is(t, "Right", op.Right(o), api.OK)
		same(t, "Bytes", bytesOf(t, "what was read", o), b)
	} else {
		sameOp(t, "beside a kind", o, api.Op{})
	}
	if q, kind := op.ReadRequest(b); kind == api.OK {
		again, kind := op.Request(q)
		is(t, "kind of a request", kind, api.OK)
		same(t, "Request", again, b)
	} else {
		sameRequest(t, "beside a kind", q, api.Request{})
	}
	if r, kind := op.ReadResult(b); kind == api.OK {
		again, kind := op.Result(r)
		is(t, "kind of a result", kind, api.OK)
		same(t, "Result", again, b)
	} else {
		sameResult(t, "beside a kind", r, api.Result{})
	}
	same(t, "handed in", b, before)
}

// forms: of right things of all three sorts, none too long to be changed at every place.
func forms() [][]byte {
	var out [][]byte
	for _, x := range append(rightOps(), wrongOps()...) {
		out = append(out, formOf(x.o), formOfRequest(api.Request{Client: 1, Stamp: 300, O: x.o}))
	}
	for _, r := range rightResults() {
		out = append(out, formOfResult(r))
	}
	return out
}

func TestP604PutIsRead(t *testing.T) {
	for _, x := range rightOps() {
		o, kind := op.Read(bytesOf(t, x.name, x.o))
		is(t, x.name, kind, api.OK)
		sameOp(t, x.name, o, x.o)
		is(t, x.name+": Same", op.Same(o, x.o), true)
		want := api.Request{Client: 300, Stamp: lastTime, O: x.o}
		b, _ := op.Request(want)
		q, kind := op.ReadRequest(b)
		is(t, x.name+" requested", kind, api.OK)
		sameRequest(t, x.name+" requested", q, want)
	}
	for _, want := range rightResults() {
		b, _ := op.Result(want)
		r, kind := op.ReadResult(b)
		is(t, "kind of a result", kind, api.OK)
		sameResult(t, "ReadResult", r, want)
	}
}

func TestP604ReadIsPut(t *testing.T) {
	for _, form := range forms() {
		readIsPut(t, form)
		if len(form) > 400 {
			continue
		}
		for i := range form {
			for _, x := range []byte{0, 1, 2, 4, 6, 8, 9, 32, 33, 100, 101, 127, 128, 255, form[i] + 1, form[i] - 1} {
				changed := bytes.Clone(form)
				changed[i] = x
				readIsPut(t, changed)
			}
			readIsPut(t, join(form[:i], form[i+1:]))
			readIsPut(t, join(form[:i], []byte{0}, form[i:]))
			readIsPut(t, join(form[:i], []byte{128}, form[i:]))
		}
	}
}

// anyOp: often right; the source's seed is fixed, so that every run is alike.
func anyOp(source *rand.Rand, parts int) api.Op {
	some := func() string {
		b := make([]byte, source.Intn(4))
		source.Read(b)
		return string(b)
	}
	o := api.Op{Kind: source.Intn(10), K: api.Key{Row: "r"}}
	if source.Intn(3) > 0 {
		o.K.Family, o.K.Qual = some(), some()
	}
	if source.Intn(2) > 0 {
		o.K.Time = source.Uint64() >> source.Intn(64)
	}
	if source.Intn(3) > 1 {
		o.To = some()
	}
	if source.Intn(2) > 0 {
		o.Value = []byte(some())
	}
	if source.Intn(3) > 1 {
		o.Has, o.Want = source.Intn(4) > 0, []byte(some())
	}
	if o.Kind == api.Batch {
		o.K = api.Key{Row: "r"}
		for range source.Intn(parts + 1) {
			o.Sub = append(o.Sub, anyOp(source, 0))
		}
	}
	return o
}

// P604: bytes are put just of what is right, and just these are read.
func TestP604AnyOps(t *testing.T) {
	source := rand.New(rand.NewSource(6))
	right := 0
	for range 100000 {
		o := anyOp(source, 3)
		form := formOf(o)
		b, kind := op.Bytes(o)
		got, readKind := op.Read(form)
		is(t, "Bytes and Right", kind, op.Right(o))
		is(t, "Read and Right", readKind, kind)
		if kind == api.OK {
			right++
			same(t, "Bytes", b, form)
			sameOp(t, "Read", got, o)
		}
	}
	if right < 1000 {
		t.Errorf("only %d were right", right)
	}
}

func FuzzP604ReadIsPut(f *testing.F) {
	for _, form := range forms() {
		f.Add(form)
	}
	f.Fuzz(func(t *testing.T, b []byte) {
		readIsPut(t, b)
	})
}
