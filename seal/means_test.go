package seal_test

import (
	"bytes"
	"crypto/hmac"
	"crypto/sha256"
	"encoding/binary"
	"testing"

	"bulwark/api"
	"bulwark/seal"
)

const master = "a master"

// kinds: of books.
var kinds = []bool{false, true}

func same(t *testing.T, what string, got, want []byte) {
	t.Helper()
	if !bytes.Equal(got, want) {
		t.Errorf("%s: %x, not %x", what, got, want)
	}
}

// sumOf: digest.Of, told by the library's means alone.
func sumOf(word string, parts ...[]byte) []byte {
	text := append(binary.AppendUvarint(nil, uint64(len(word))), word...)
	text = binary.AppendUvarint(text, uint64(len(parts)))
	for _, part := range parts {
		text = append(binary.AppendUvarint(text, uint64(len(part))), part...)
	}
	sum := sha256.Sum256(text)
	return sum[:]
}

func number(n uint64) []byte {
	return binary.AppendUvarint(nil, n)
}

func wantKey(master []byte, node uint64) []byte {
	return sumOf("key", master, number(node))
}

func wantTag(real bool, master []byte, node uint64, body []byte) []byte {
	if !real {
		return sumOf("ideal", number(node), body)
	}
	h := hmac.New(sha256.New, wantKey(master, node))
	h.Write(sumOf("said", number(node), body))
	return h.Sum(nil)
}

// nodes: some numbers of nodes, whose wire forms are of one byte up to ten.
func nodes() []uint64 {
	return []uint64{1, 2, 127, 128, 129, 16383, 16384, 1 << 32, 1<<63 - 1, 1 << 63, 1<<64 - 1}
}

// bodies: no two of them are the same.
func bodies() [][]byte {
	out := [][]byte{{}, {0}, {1}, {0, 0}, {1, 1}, []byte("a"), []byte("b"), []byte("ab")}
	for _, size := range []int{31, 32, 33, 55, 56, 63, 64, 65, 127, 128, 300, 70000} {
		out = append(out, bytes.Repeat([]byte{byte(size)}, size))
	}
	return out
}

func book(t *testing.T, real bool, nodes ...uint64) *seal.Book {
	t.Helper()
	b, kind := seal.New(real, []byte(master), nodes)
	if b == nil || kind != api.OK {
		t.Fatalf("New of %v: %v, %v", nodes, b, kind)
	}
	return b
}

func tag(t *testing.T, b *seal.Book, node uint64, body []byte) []byte {
	t.Helper()
	tag, kind := b.Tag(node, body)
	if kind != api.OK || len(tag) != 32 {
		t.Fatalf("Tag of %d and %q: %x, %v", node, body, tag, kind)
	}
	return tag
}

// holds: what a book answers of a node, a body and a tag.
func holds(t *testing.T, b *seal.Book, node uint64, body, tag []byte, check, said bool) {
	t.Helper()
	if got := b.Check(node, body, tag); got != check {
		t.Errorf("Check of %d, %.20q and %x: %v", node, body, tag, got)
	}
	if got := b.Said(node, body); got != said {
		t.Errorf("Said of %d and %.20q: %v", node, body, got)
	}
	if got := b.Forged(node, body, tag); got != (check && !said) {
		t.Errorf("Forged of %d, %.20q and %x: %v", node, body, tag, got)
	}
}

func many(t *testing.T, b *seal.Book, want int) {
	t.Helper()
	if got := b.Many(); got != want {
		t.Errorf("Many: %d, not %d", got, want)
	}
}

// roomy: b in memory with spare room behind it, and a check that all of it is still as it was.
func roomy(t *testing.T, b []byte) ([]byte, func()) {
	t.Helper()
	whole := append(bytes.Clone(b), bytes.Repeat([]byte{0xa5}, 100)...)
	before := bytes.Clone(whole)
	return whole[:len(b)], func() {
		t.Helper()
		same(t, "what was handed in, and its spare room", whole, before)
	}
}

// spoil: writes over all of some memory, spare room too.
func spoil(b []byte) {
	b = b[:cap(b)]
	for i := range b {
		b[i] ^= 0xff
	}
}
