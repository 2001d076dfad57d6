package wire_test

import (
	"bytes"
	"encoding/binary"
	"math"
	"testing"

	"bulwark/wire"
)

// numbers: the edges of each count of groups, and some between them.
func numbers() []uint64 {
	list := []uint64{0, 1, 2, 300, 1000, math.MaxInt64 - 1, math.MaxInt64, math.MaxUint64 - 1, math.MaxUint64}
	for bit := range 64 {
		edge := uint64(1) << bit
		list = append(list, edge-1, edge, edge+1, edge|edge>>3|edge>>11, math.MaxUint64-edge)
	}
	return list
}

func same(t *testing.T, what string, got, want []byte) {
	t.Helper()
	if !bytes.Equal(got, want) {
		t.Errorf("%s: %v, not %v", what, got, want)
	}
}

// P101: the forms as the chapter tells them, written out.
func TestP101FormsOfNumbers(t *testing.T) {
	cases := []struct {
		n    uint64
		form []byte
	}{
		{0, []byte{0}},
		{1, []byte{1}},
		{127, []byte{127}},
		{128, []byte{128, 1}},
		{255, []byte{255, 1}},
		{256, []byte{128, 2}},
		{300, []byte{172, 2}},
		{16383, []byte{255, 127}},
		{16384, []byte{128, 128, 1}},
		{1<<63 - 1, []byte{255, 255, 255, 255, 255, 255, 255, 255, 127}},
		{1 << 63, []byte{128, 128, 128, 128, 128, 128, 128, 128, 128, 1}},
		{math.MaxUint64, []byte{255, 255, 255, 255, 255, 255, 255, 255, 255, 1}},
	}
	for _, c := range cases {
		same(t, "Uint", wire.Uint(nil, c.n), c.form)
		same(t, "Uint behind", wire.Uint([]byte{9, 8}, c.n), append([]byte{9, 8}, c.form...))
	}
}

func TestP101NumbersAgainstLibrary(t *testing.T) {
	for _, n := range numbers() {
		same(t, "Uint", wire.Uint([]byte("ahead"), n), binary.AppendUvarint([]byte("ahead"), n))
	}
}

func TestP101FormsOfBytes(t *testing.T) {
	same(t, "nil", wire.Bytes(nil, nil), []byte{0})
	same(t, "empty", wire.Bytes([]byte{}, []byte{}), []byte{0})
	same(t, "two", wire.Bytes(nil, []byte("ab")), []byte{2, 'a', 'b'})
	same(t, "behind", wire.Bytes([]byte{5}, []byte{0, 255}), []byte{5, 2, 0, 255})
	for _, size := range []int{127, 128, 300, 16384} {
		x := bytes.Repeat([]byte{7}, size)
		same(t, "long", wire.Bytes(nil, x), append(binary.AppendUvarint(nil, uint64(size)), x...))
	}
}

func TestP101FormsOfTruths(t *testing.T) {
	same(t, "true", wire.Bool(nil, true), []byte{1})
	same(t, "false", wire.Bool(nil, false), []byte{0})
	same(t, "behind", wire.Bool(wire.Bool([]byte{4}, true), false), []byte{4, 1, 0})
}

// putters: each way to put something of some length behind b.
func putters() map[string]func(b []byte) []byte {
	return map[string]func(b []byte) []byte{
		"Uint 0":        func(b []byte) []byte { return wire.Uint(b, 0) },
		"Uint greatest": func(b []byte) []byte { return wire.Uint(b, math.MaxUint64) },
		"Bytes none":    func(b []byte) []byte { return wire.Bytes(b, nil) },
		"Bytes":         func(b []byte) []byte { return wire.Bytes(b, []byte("xyz")) },
		"Bytes of self": func(b []byte) []byte { return wire.Bytes(b, b) },
		"Bool":          func(b []byte) []byte { return wire.Bool(b, true) },
	}
}

// P101 with rule 4: neither b nor its spare room is written, and the answer is new memory.
func TestP101LeavesWhatIsHandedIn(t *testing.T) {
	for name, put := range putters() {
		whole := bytes.Repeat([]byte{77}, 64)
		before := bytes.Clone(whole)
		out := put(whole[:3])
		same(t, name+" handed in", whole, before)
		if !bytes.HasPrefix(out, whole[:3]) {
			t.Errorf("%s: %v does not begin with b", name, out)
		}
		out = out[:cap(out)]
		for i := range out {
			out[i] = 200
		}
		same(t, name+" written into", whole, before)
	}
}

// Two forms put behind one b must not write over each other.
func TestP101AnswersShareNothing(t *testing.T) {
	b := wire.Uint(make([]byte, 0, 64), 5)
	one, two := wire.Uint(b, 1), wire.Uint(b, 2)
	same(t, "one", one, []byte{5, 1})
	same(t, "two", two, []byte{5, 2})
	x := []byte("ab")
	form := wire.Bytes(nil, x)
	x[0] = 'z'
	same(t, "of x", form, []byte{2, 'a', 'b'})
}
