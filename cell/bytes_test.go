package cell_test

import (
	"bytes"
	"strings"
	"testing"

	"bulwark/api"
	"bulwark/cell"
)

// wrongKeys: each with one thing wrong at least.
func wrongKeys() map[string]api.Key {
	out := map[string]api.Key{
		"nothing":             {},
		"nothing but a time":  {Time: last},
		"no row":              key("", "f", "q", 1),
		"no family":           key("r", "", "q", 1),
		"no family, no qual":  key("r", "", "", 1),
		"no row, no family":   key("", "", "q", 1),
		"no row, long family": key("", long(33), "", 1),
		"all too long":        key(long(33), long(33), long(33), 1),
	}
	for _, name := range wrongNames() {
		out["row "+name] = key(name, "f", "q", 1)
		out["family "+name] = key("r", name, "q", 1)
		out["qual "+name] = key("r", "f", name, 1)
		out["qual alone "+name] = key(long(32), long(32), name, 1)
	}
	return out
}

func TestP401Right(t *testing.T) {
	for _, k := range keys() {
		is(t, "Right", cell.Right(k), api.OK)
	}
	is(t, "no qual", cell.Right(key("r", "f", "", 0)), api.OK)
	is(t, "all of 32", cell.Right(key(long(32), long(32), long(32), last)), api.OK)
	is(t, "of 32 bytes, fewer letters", cell.Right(key(strings.Repeat("\u00e9", 16), "f", "", 0)), api.OK)
	is(t, "of 34 bytes, fewer letters", cell.Right(key(strings.Repeat("\u00e9", 17), "f", "", 0)), api.BadKey)
	for name, k := range wrongKeys() {
		is(t, name, cell.Right(k), api.BadKey)
	}
}

func TestP401Example(t *testing.T) {
	same(t, "Bytes", bytesOf(t, key("a", "b", "", 0)), []byte{97, 0, 1, 98, 0, 1, 0, 1, 255, 255, 255, 255, 255, 255, 255, 255})
}

// P401: the bytes as the chapter tells them, written out.
func TestP401Bytes(t *testing.T) {
	cases := []struct {
		k    api.Key
		want []byte
	}{
		{key("r", "f", "q", last), []byte{'r', 0, 1, 'f', 0, 1, 'q', 0, 1, 0, 0, 0, 0, 0, 0, 0, 0}},
		{key("r", "f", "q", last-1), []byte{'r', 0, 1, 'f', 0, 1, 'q', 0, 1, 0, 0, 0, 0, 0, 0, 0, 1}},
		{key("r", "f", "q", 0x0102030405060708), []byte{'r', 0, 1, 'f', 0, 1, 'q', 0, 1, 254, 253, 252, 251, 250, 249, 248, 247}},
		{key("\x00", "\x01", "\xfe", 0), []byte{0, 255, 0, 1, 1, 0, 1, 254, 0, 1, 255, 255, 255, 255, 255, 255, 255, 255}},
		{key("\xff", "\x00\xff", "\x00\x01", 1), []byte{255, 0, 1, 0, 255, 255, 0, 1, 0, 255, 1, 0, 1, 255, 255, 255, 255, 255, 255, 255, 254}},
		{key("\x00\x00", "a\x00b", "\x01\x00", 256), []byte{0, 255, 0, 255, 0, 1, 97, 0, 255, 98, 0, 1, 1, 0, 255, 0, 1, 255, 255, 255, 255, 255, 255, 254, 255}},
	}
	for _, c := range cases {
		same(t, "Bytes", bytesOf(t, c.k), c.want)
	}
	whole := bytesOf(t, key(strings.Repeat("\x00", 32), strings.Repeat("\x00", 32), strings.Repeat("\x00", 32), 0))
	is(t, "the longest", len(whole), 3*(2*32+2)+8)
}

func TestP401BytesAsTold(t *testing.T) {
	for _, k := range keys() {
		same(t, "Bytes", bytesOf(t, k), formOf(k))
	}
}

func TestP401BytesOfWrongKeys(t *testing.T) {
	for name, k := range wrongKeys() {
		b, kind := cell.Bytes(k)
		is(t, name, kind, api.BadKey)
		is(t, name+": bytes", len(b), 0)
	}
}

// P401 with rule 4: each answer is memory of its own.
func TestP401NewMemory(t *testing.T) {
	k := key("r\x00", "f", "q", 5)
	spoil(bytesOf(t, k))
	one, two := bytesOf(t, k), bytesOf(t, k)
	spoil(one)
	same(t, "two", two, formOf(k))
	is(t, "the key", k, key("r\x00", "f", "q", 5))
}

func TestP402Read(t *testing.T) {
	for _, k := range keys() {
		got, kind := cell.Read(formOf(k))
		is(t, "kind", kind, api.OK)
		is(t, "Read", got, k)
	}
	got, kind := cell.Read([]byte{97, 0, 1, 98, 0, 1, 0, 1, 255, 255, 255, 255, 255, 255, 255, 255})
	is(t, "kind of the example", kind, api.OK)
	is(t, "the example", got, key("a", "b", "", 0))
	got, kind = cell.Read([]byte{0, 255, 255, 0, 1, 0, 255, 1, 0, 1, 255, 0, 1, 0, 1, 0, 1, 0, 255, 255, 0})
	is(t, "kind of a time with 0, 1 and 255", kind, api.OK)
	is(t, "a time with 0, 1 and 255", got, key("\x00\xff", "\x00\x01", "\xff", last-0x0001000100ffff00))
}

// isNone: b is no right key's.
func isNone(t *testing.T, what string, b []byte) {
	t.Helper()
	k, kind := cell.Read(b)
	if kind != api.BadKey || k != (api.Key{}) {
		t.Errorf("%s: %v: %#v, %d", what, b, k, kind)
	}
}

func TestP402Nothing(t *testing.T) {
	isNone(t, "nil", nil)
	isNone(t, "empty", []byte{})
	isNone(t, "a time alone", make([]byte, 8))
	isNone(t, "zeros", make([]byte, 100))
	isNone(t, "255", bytes.Repeat([]byte{255}, 100))
	isNone(t, "ends alone", bytes.Repeat([]byte{0, 1}, 50))
	isNone(t, "much without an end", bytes.Repeat([]byte{7}, 1<<20))
}

func TestP402TooEarlyAndMore(t *testing.T) {
	for _, k := range keys() {
		b := formOf(k)
		for size := range b {
			isNone(t, "too early", b[:size])
		}
		for _, x := range []byte{0, 1, 254, 255} {
			isNone(t, "one more", append(bytes.Clone(b), x))
			isNone(t, "one more ahead of the time", append(append(bytes.Clone(b[:len(b)-8]), x), b[len(b)-8:]...))
		}
		isNone(t, "twice", append(bytes.Clone(b), b...))
		isNone(t, "a fourth name", append(append(bytes.Clone(b[:len(b)-8]), 'x', 0, 1), b[len(b)-8:]...))
		isNone(t, "the time missing", b[:len(b)-8])
	}
}

// P402: behind a 0 of a name stands 255 or 1.
func TestP402BehindAZero(t *testing.T) {
	for x := range 256 {
		middle := []byte{'r', 0, byte(x), 'r', 0, 1}
		tail := []byte{'f', 0, 1, 'q', 0, 1, 1, 2, 3, 4, 5, 6, 7, 8}
		b := append(middle, tail...)
		if x == 255 {
			got, kind := cell.Read(b)
			is(t, "kind behind 255", kind, api.OK)
			is(t, "behind 255", got.Row, "r\x00r")
		} else {
			isNone(t, "behind a 0 of the row", b)
		}
		b = append([]byte{'r', 0, 1, 'f', 0, 1, 'q', 0, byte(x)}, tail[6:]...)
		if x != 1 {
			isNone(t, "in place of an end", b)
		}
	}
	for _, b := range [][]byte{{0}, {'r', 0}, {'r', 0, 1, 'f', 0}, {'r', 0, 1, 'f', 0, 1, 0}, {'r', 0, 1, 'f', 0, 1, 'q', 0}} {
		isNone(t, "a 0 at the end", b)
		isNone(t, "a 0 at the end", append(roomy(b), 255))
	}
	// a 0 that begins the time is the time's own
	got, kind := cell.Read([]byte{'r', 0, 1, 'f', 0, 1, 0, 1, 0, 7, 0, 0, 0, 2, 0, 0})
	is(t, "kind of a time", kind, api.OK)
	is(t, "a time", got, key("r", "f", "", last-0x0007000000020000))
}

// P402: bytes of a key's form whose key is not right are none.
func TestP402OfWrongKeys(t *testing.T) {
	for name, k := range wrongKeys() {
		isNone(t, name, formOf(k))
	}
}

// P402 with rule 4: the bytes stay as they were, and the key has none of them.
func TestP402NewMemory(t *testing.T) {
	want := key("r\x00", "f", "q", 5)
	b := roomy(formOf(want))
	before := bytes.Clone(b[:cap(b)])
	got, kind := cell.Read(b)
	is(t, "kind", kind, api.OK)
	same(t, "handed in", b[:cap(b)], before)
	isNone(t, "too early", b[:len(b)-1])
	same(t, "handed in", b[:cap(b)], before)
	spoil(b)
	is(t, "Read", got, want)
}
