package wire_test

import (
	"bytes"
	"math"
	"testing"

	"bulwark/api"
	"bulwark/wire"
)

func repeat(x byte, times int, behind ...byte) []byte {
	return append(bytes.Repeat([]byte{x}, times), behind...)
}

func is[T comparable](t *testing.T, what string, got, want T) {
	t.Helper()
	if got != want {
		t.Errorf("%s: %v, not %v", what, got, want)
	}
}

// hasFailed: with that kind, and so it answers zero, takes nothing and keeps what was wrong first.
func hasFailed(t *testing.T, what string, r *wire.Reader, want api.Kind) {
	t.Helper()
	for range 2 {
		is(t, what+": Done", r.Done(), want)
		is(t, what+": Left", r.Left(), 0)
		is(t, what+": Uint", r.Uint(), 0)
		is(t, what+": Int", r.Int(5), 0)
		is(t, what+": Int of -1", r.Int(-1), 0)
		is(t, what+": Bytes", len(r.Bytes(5)), 0)
		is(t, what+": Bytes of -1", len(r.Bytes(-1)), 0)
		is(t, what+": Bool", r.Bool(), false)
		r.Fail(api.Refused)
		r.Fail(api.OK)
	}
}

func TestP102Uint(t *testing.T) {
	cases := []struct {
		b    []byte
		n    uint64
		left int
	}{
		{[]byte{0}, 0, 0},
		{[]byte{0, 0}, 0, 1},
		{[]byte{127, 1}, 127, 1},
		{[]byte{128, 1}, 128, 0},
		{[]byte{172, 2, 9, 9}, 300, 2},
		{[]byte{128, 128, 1}, 16384, 0},
		{repeat(255, 8, 127), math.MaxInt64, 0},
		{repeat(128, 9, 1), 1 << 63, 0},
		{repeat(255, 9, 1), math.MaxUint64, 0},
		{repeat(255, 9, 1, 1), math.MaxUint64, 1},
	}
	for _, c := range cases {
		r := wire.Read(c.b)
		is(t, "Uint", r.Uint(), c.n)
		is(t, "Left", r.Left(), c.left)
	}
}

func TestP102UintWrong(t *testing.T) {
	cases := []struct {
		name string
		b    []byte
		want api.Kind
	}{
		{"nothing", nil, api.Short},
		{"one that goes on", []byte{128}, api.Short},
		{"one of 255", []byte{255}, api.Short},
		{"nine that go on", repeat(255, 9), api.Short},
		{"nine zeros that go on", repeat(128, 9), api.Short},
		{"last 0 as second", []byte{128, 0}, api.BadForm},
		{"last 0 behind a group", []byte{129, 0, 1}, api.BadForm},
		{"last 0 as third", []byte{255, 255, 0}, api.BadForm},
		{"last 0 as tenth", repeat(255, 9, 0), api.BadForm},
		{"tenth 2", repeat(255, 9, 2), api.BadForm},
		{"tenth 2 of zeros", repeat(128, 9, 2), api.BadForm},
		{"tenth 127", repeat(128, 9, 127), api.BadForm},
		{"tenth 128 and no more", repeat(128, 9, 128), api.BadForm},
		{"tenth 129 and no more", repeat(128, 9, 129), api.BadForm},
		{"tenth 129 and a last one", repeat(128, 9, 129, 1), api.BadForm},
		{"tenth 255 and more", repeat(255, 30, 1), api.BadForm},
	}
	for _, c := range cases {
		r := wire.Read(c.b)
		is(t, c.name, r.Uint(), 0)
		hasFailed(t, c.name, r, c.want)
	}
}

func TestP102Int(t *testing.T) {
	cases := []struct {
		n, most int
	}{{0, 0}, {0, 5}, {5, 5}, {4, 5}, {300, 300}, {300, math.MaxInt}, {math.MaxInt, math.MaxInt}, {0, math.MaxInt}}
	for _, c := range cases {
		r := wire.Read(wire.Uint(nil, uint64(c.n)))
		is(t, "Int", r.Int(c.most), c.n)
		is(t, "Done", r.Done(), api.OK)
	}
}

func TestP102IntWrong(t *testing.T) {
	cases := []struct {
		name string
		b    []byte
		most int
		want api.Kind
	}{
		{"1 above 0", []byte{1}, 0, api.TooLarge},
		{"6 above 5", []byte{6, 1}, 5, api.TooLarge},
		{"300 above 299", []byte{172, 2}, 299, api.TooLarge},
		{"2^63", repeat(128, 9, 1), math.MaxInt, api.TooLarge},
		{"the greatest", repeat(255, 9, 1), math.MaxInt, api.TooLarge},
		{"the greatest above 0", repeat(255, 9, 1), 0, api.TooLarge},
		{"0 and most -1", []byte{0}, -1, api.TooLarge},
		{"0 and the least most", []byte{0}, math.MinInt, api.TooLarge},
		{"the greatest and most -1", repeat(255, 9, 1), -1, api.TooLarge},
		{"Short ahead of most -1", nil, -1, api.Short},
		{"Short ahead of most 0", []byte{255}, 0, api.Short},
		{"BadForm ahead of most -1", []byte{129, 0}, -1, api.BadForm},
		{"BadForm ahead of most 0", repeat(255, 10), 0, api.BadForm},
	}
	for _, c := range cases {
		r := wire.Read(c.b)
		is(t, c.name, r.Int(c.most), 0)
		hasFailed(t, c.name, r, c.want)
	}
}

func TestP102Bytes(t *testing.T) {
	r := wire.Read([]byte{0, 2, 'a', 'b', 1, 0, 3, 3, 3, 3})
	same(t, "none", r.Bytes(0), nil)
	same(t, "as many as may be", r.Bytes(2), []byte("ab"))
	same(t, "one", r.Bytes(math.MaxInt), []byte{0})
	same(t, "all that is left", r.Bytes(9), []byte{3, 3, 3})
	is(t, "Done", r.Done(), api.OK)
}

func TestP102BytesWrong(t *testing.T) {
	cases := []struct {
		name string
		b    []byte
		most int
		want api.Kind
	}{
		{"nothing", nil, 9, api.Short},
		{"a length that ends early", []byte{130}, 9, api.Short},
		{"one byte missing", []byte{3, 1, 2}, 9, api.Short},
		{"all missing", []byte{1}, 9, api.Short},
		{"the greatest int missing", wire.Uint(nil, math.MaxInt), math.MaxInt, api.Short},
		{"a length with a last 0", []byte{130, 0, 1, 1}, 9, api.BadForm},
		{"above most", []byte{3, 1, 2, 3}, 2, api.TooLarge},
		{"above most and missing", []byte{3, 1}, 2, api.TooLarge},
		{"the greatest number", repeat(255, 9, 1), math.MaxInt, api.TooLarge},
		{"none, and most -1", []byte{0}, -1, api.TooLarge},
		{"nothing, and most -1", nil, -1, api.Short},
	}
	for _, c := range cases {
		r := wire.Read(c.b)
		is(t, c.name, len(r.Bytes(c.most)), 0)
		hasFailed(t, c.name, r, c.want)
	}
}

func TestP102Bool(t *testing.T) {
	r := wire.Read([]byte{1, 0, 1})
	is(t, "first", r.Bool(), true)
	is(t, "second", r.Bool(), false)
	is(t, "Left", r.Left(), 1)
	is(t, "third", r.Bool(), true)
	is(t, "Done", r.Done(), api.OK)
	hasFailed(t, "behind the end", readBool(r), api.Short)
}

func readBool(r *wire.Reader) *wire.Reader {
	r.Bool()
	return r
}

func TestP102BoolWrong(t *testing.T) {
	hasFailed(t, "nothing", readBool(wire.Read(nil)), api.Short)
	for x := 2; x < 256; x++ {
		r := wire.Read([]byte{byte(x), 1})
		is(t, "Bool", r.Bool(), false)
		hasFailed(t, "neither 1 nor 0", r, api.BadForm)
	}
}

func TestP102Fail(t *testing.T) {
	for _, k := range []api.Kind{api.BadArg, api.Short, api.BadForm, api.Nil, api.Refused, 19, -1, math.MaxInt, math.MinInt} {
		r := wire.Read([]byte{1, 1, 1})
		is(t, "ahead", r.Uint(), 1)
		r.Fail(k)
		hasFailed(t, "Fail", r, k)
	}
	r := wire.Read([]byte{7, 1})
	r.Fail(api.OK)
	is(t, "Left", r.Left(), 2)
	is(t, "Uint", r.Uint(), 7)
	is(t, "Bool", r.Bool(), true)
	is(t, "Done", r.Done(), api.OK)
	r.Fail(api.Stale)
	hasFailed(t, "at the end", r, api.Stale)
}

// P102 with rule 4: a reader keeps no bytes of its maker's, and hands out none of its own.
func TestP102NewMemory(t *testing.T) {
	b := []byte{2, 'a', 'b', 2, 'c', 'd', 7}
	before := bytes.Clone(b)
	r := wire.Read(b)
	one := r.Bytes(9)
	same(t, "one", one, []byte("ab"))
	one = append(one[:cap(one)], 99)
	for i := range one {
		one[i] = 99
	}
	same(t, "handed in", b, before)
	for i := range b {
		b[i] = 255
	}
	two := r.Bytes(9)
	same(t, "two", two, []byte("cd"))
	two = two[:cap(two)]
	for i := range two {
		two[i] = 99
	}
	is(t, "Uint", r.Uint(), 7)
	is(t, "Done", r.Done(), api.OK)
}

func TestP102ReadersShareNothing(t *testing.T) {
	b := []byte{1, 2}
	one, two := wire.Read(b), wire.Read(b)
	one.Fail(api.Full)
	is(t, "two", two.Uint(), 1)
	is(t, "Left", two.Left(), 1)
	hasFailed(t, "one", one, api.Full)
}

func TestP102NilReader(t *testing.T) {
	var r *wire.Reader
	hasFailed(t, "nil", r, api.Nil)
}

func TestP103Left(t *testing.T) {
	is(t, "of nil", wire.Read(nil).Left(), 0)
	r := wire.Read([]byte{172, 2, 2, 'a', 'b', 1, 5})
	is(t, "at first", r.Left(), 7)
	r.Uint()
	is(t, "behind a number", r.Left(), 5)
	r.Bytes(2)
	is(t, "behind bytes", r.Left(), 2)
	r.Bool()
	is(t, "behind a truth", r.Left(), 1)
	r.Int(4)
	is(t, "failed", r.Left(), 0)
}

func TestP103Done(t *testing.T) {
	is(t, "of nil", wire.Read(nil).Done(), api.OK)
	is(t, "of empty", wire.Read([]byte{}).Done(), api.OK)
	is(t, "of a reader that nobody made", new(wire.Reader).Done(), api.OK)
	r := wire.Read([]byte{1, 0})
	for range 2 {
		is(t, "two left", r.Done(), api.BadForm)
	}
	is(t, "Left behind Done", r.Left(), 2)
	is(t, "Uint behind Done", r.Uint(), 1)
	is(t, "one left", r.Done(), api.BadForm)
	is(t, "Bool behind Done", r.Bool(), false)
	is(t, "none left", r.Done(), api.OK)
	r = wire.Read([]byte{9, 9, 9})
	r.Int(8)
	is(t, "what was wrong first, not what is left", r.Done(), api.TooLarge)
}
