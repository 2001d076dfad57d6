package wire_test

import (
	"bytes"
	"math"
	"testing"

	"bulwark/api"
	"bulwark/wire"
)

// P104: what was put is read, each thing by itself and all in a row.
func TestP104PutIsRead(t *testing.T) {
	var form []byte
	for _, n := range numbers() {
		r := wire.Read(wire.Uint(nil, n))
		is(t, "Uint", r.Uint(), n)
		is(t, "Done", r.Done(), api.OK)
		form = wire.Bool(wire.Bytes(wire.Uint(form, n), form[len(form)/2:min(len(form), len(form)/2+200)]), n%3 == 0)
	}
	r := wire.Read(form)
	var again []byte
	for _, n := range numbers() {
		is(t, "Uint in a row", r.Uint(), n)
		x := again[len(again)/2 : min(len(again), len(again)/2+200)]
		same(t, "Bytes in a row", r.Bytes(200), x)
		is(t, "Bool in a row", r.Bool(), n%3 == 0)
		again = wire.Bool(wire.Bytes(wire.Uint(again, n), x), n%3 == 0)
	}
	is(t, "Done", r.Done(), api.OK)
	same(t, "put again", again, form)
}

// checkOneForm: where bytes are read as a number, those taken are just what would be put.
func checkOneForm(t *testing.T, b []byte) {
	t.Helper()
	r := wire.Read(b)
	n := r.Uint()
	if k := r.Done(); k == api.Short || k == api.BadForm && r.Left() == 0 {
		is(t, "n of a wrong form", n, 0)
		return
	}
	same(t, "taken", wire.Uint(nil, n), b[:len(b)-r.Left()])
}

func TestP104OneFormOfShortOnes(t *testing.T) {
	read := map[uint64]int{}
	for x := range 1 << 16 {
		b := []byte{byte(x), byte(x >> 8)}
		checkOneForm(t, b)
		r := wire.Read(b)
		if n := r.Uint(); r.Done() == api.OK {
			read[n]++
		}
	}
	// two bytes tell just the numbers of two groups, each once
	is(t, "numbers", len(read), 128*127)
	for n, times := range read {
		is(t, "times", times, 1)
		if n < 128 || n > 16383 {
			t.Errorf("%d has two bytes", n)
		}
	}
}

func TestP104OneFormOfLongOnes(t *testing.T) {
	edges := []byte{0, 1, 2, 126, 127, 128, 129, 130, 254, 255}
	for _, fill := range []byte{128, 129, 170, 255} {
		for size := range 12 {
			for _, x := range edges {
				for _, y := range edges {
					checkOneForm(t, repeat(fill, size, x, y))
				}
			}
		}
	}
}

func TestP104OneFormOfTruths(t *testing.T) {
	for x := range 256 {
		r := wire.Read([]byte{byte(x)})
		truth := r.Bool()
		if r.Done() == api.OK {
			same(t, "Bool", wire.Bool(nil, truth), []byte{byte(x)})
		}
	}
}

func FuzzP104ReadIsPut(f *testing.F) {
	f.Add([]byte{172, 2, 2, 'a', 'b', 1}, 9)
	f.Add([]byte{0, 0, 0}, 0)
	f.Add([]byte{0, 129, 0, 1}, -1)
	f.Add(append(repeat(255, 9, 1), 3, 1, 2), math.MaxInt)
	f.Fuzz(func(t *testing.T, b []byte, most int) {
		checkOneForm(t, b)
		before := bytes.Clone(b)
		r := wire.Read(b)
		n, x, truth := r.Uint(), r.Bytes(most), r.Bool()
		if r.Done() == api.OK {
			same(t, "put", wire.Bool(wire.Bytes(wire.Uint(nil, n), x), truth), b)
		}
		if len(x) > max(most, 0) {
			t.Errorf("%d bytes, above %d", len(x), most)
		}
		same(t, "handed in", b, before)
	})
}
