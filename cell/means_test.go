package cell_test

import (
	"bytes"
	"encoding/binary"
	"strings"
	"testing"

	"bulwark/api"
	"bulwark/cell"
)

const (
	first = 0
	last  = 1<<64 - 1
)

func is[T comparable](t *testing.T, what string, got, want T) {
	t.Helper()
	if got != want {
		t.Errorf("%q: %#v, not %#v", what, got, want)
	}
}

func same(t *testing.T, what string, got, want []byte) {
	t.Helper()
	if !bytes.Equal(got, want) {
		t.Errorf("%s: %v, not %v", what, got, want)
	}
}

func key(row, family, qual string, time uint64) api.Key {
	return api.Key{Row: row, Family: family, Qual: qual, Time: time}
}

// formOf: a key's bytes as the chapter tells them, by the library's means alone, of any key.
func formOf(k api.Key) []byte {
	var b []byte
	for _, name := range []string{k.Row, k.Family, k.Qual} {
		b = append(b, strings.ReplaceAll(name, "\x00", "\x00\xff")...)
		b = append(b, 0, 1)
	}
	return binary.BigEndian.AppendUint64(b, last-k.Time)
}

// isRight: as the chapter's words tell it.
func isRight(k api.Key) bool {
	return k.Row != "" && k.Family != "" && len(k.Row) <= 32 && len(k.Family) <= 32 && len(k.Qual) <= 32
}

// bytesOf: of a key that must be right.
func bytesOf(t *testing.T, k api.Key) []byte {
	t.Helper()
	b, kind := cell.Bytes(k)
	if kind != api.OK {
		t.Fatalf("Bytes of %#v: %d", k, kind)
	}
	return b
}

// roomy: these bytes, with room behind them that must stay as it is.
func roomy(b []byte) []byte {
	whole := append(bytes.Clone(b), bytes.Repeat([]byte{77}, 64)...)
	return whole[:len(b)]
}

// spoil: all of it, its spare room too.
func spoil(b []byte) {
	b = b[:cap(b)]
	for i := range b {
		b[i] = 99
	}
}

// long: a name of that many bytes, none of which needs two.
func long(size int) string {
	return strings.Repeat("n", size)
}

// names: with the bytes that the chapter's forms are made of, at the beginning, the end and alone; names that begin others; of 31 and of 32 bytes.
func names() []string {
	out := []string{"a", "b", "ab", "aa", "abc", "\xc3\xa9", "\xfe\xfe", "\xff\xfe", "\x00\xff", "\x00\x01", "\x01\x00", "\x00\x00", "\xff\xff"}
	for _, x := range []byte{0, 1, 2, 254, 255} {
		one := string([]byte{x})
		out = append(out, one, "a"+one, one+"a", "a"+one+"b", strings.Repeat(one, 31), strings.Repeat(one, 32))
	}
	return append(out, long(31), long(32), long(31)+"m", long(31)+"\x00")
}

// wrongNames: all too long.
func wrongNames() []string {
	return []string{long(33), long(34), long(300), strings.Repeat("\x00", 33), strings.Repeat("\xff", 33), long(32) + "\x00"}
}

func times() []uint64 {
	return []uint64{first, 1, 2, 255, 256, 1 << 32, 1<<63 - 1, 1 << 63, last - 256, last - 1, last}
}

// keys: right ones, each name in each part.
func keys() []api.Key {
	var out []api.Key
	for i, name := range names() {
		time := times()[i%len(times())]
		out = append(out,
			key(name, "f", "q", time), key("r", name, "q", time), key("r", "f", name, time),
			key(name, "f", "", last-time), key("r", name, "", time), key(name, name, name, time))
	}
	for _, time := range times() {
		out = append(out, key("r", "f", "q", time), key("r", "f", "", time))
	}
	return out
}
