package digest_test

import (
	"bytes"
	"crypto/hmac"
	"crypto/sha256"
	"encoding/hex"
	"strings"
	"testing"

	"bulwark/digest"
)

func same(t *testing.T, what string, got, want []byte) {
	t.Helper()
	if !bytes.Equal(got, want) {
		t.Errorf("%s: %x, not %x", what, got, want)
	}
}

// told: bytes that hexadecimal digits tell, with spaces between words.
func told(t *testing.T, digits string) []byte {
	t.Helper()
	b, err := hex.DecodeString(strings.ReplaceAll(digits, " ", ""))
	if err != nil {
		t.Fatal(err)
	}
	return b
}

// some: size bytes without a short rule.
func some(size int) []byte {
	b := make([]byte, size)
	x := uint32(size)*2654435761 + 1
	for i := range b {
		x = x*1664525 + 1013904223
		b[i] = byte(x >> 24)
	}
	return b
}

func librarySum(b []byte) []byte {
	sum := sha256.Sum256(b)
	return sum[:]
}

func libraryMac(key, b []byte) []byte {
	h := hmac.New(sha256.New, key)
	h.Write(b)
	return h.Sum(nil)
}

// roomy: b in memory with spare room behind it, and a check that all of it is still as it was.
func roomy(t *testing.T, b []byte) ([]byte, func()) {
	t.Helper()
	whole := append(bytes.Clone(b), bytes.Repeat([]byte{0xa5}, 100)...)
	before := bytes.Clone(whole)
	return whole[:len(b)], func() {
		t.Helper()
		same(t, "what was handed in, and its spare room", whole, before)
	}
}

// spoil: writes over all of an answer's memory, spare room too.
func spoil(b []byte) {
	b = b[:cap(b)]
	for i := range b {
		b[i] ^= 0xff
	}
}

// P201: the chapter's example, and those of the standard.
func TestP201Examples(t *testing.T) {
	cases := []struct{ text, sum string }{
		{"abc", "ba7816bf 8f01cfea 414140de 5dae2223 b00361a3 96177a9c b410ff61 f20015ad"},
		{"", "e3b0c442 98fc1c14 9afbf4c8 996fb924 27ae41e4 649b934c a495991b 7852b855"},
		{"abcdbcdecdefdefgefghfghighijhijkijkljklmklmnlmnomnopnopq",
			"248d6a61 d20638b8 e5c02693 0c3e6039 a33ce459 64ff2167 f6ecedd4 19db06c1"},
		{strings.Repeat("a", 1000000), "cdc76e5c 9914fb92 81a1c7e2 84d73e67 f1809a48 a497200e 046d39cc c7112cd0"},
	}
	for _, c := range cases {
		same(t, "Sum", digest.Sum([]byte(c.text)), told(t, c.sum))
	}
	same(t, "Sum of nil", digest.Sum(nil), digest.Sum([]byte{}))
}

// Of every rest by 64, so also of 55, 56, 63 and 0, in one block and in some.
func TestP201SumOfEachLength(t *testing.T) {
	for size := range 1100 {
		b := some(size)
		same(t, "Sum", digest.Sum(b), librarySum(b))
		same(t, "Sum of zeros", digest.Sum(make([]byte, size)), librarySum(make([]byte, size)))
		same(t, "Sum of 255s", digest.Sum(bytes.Repeat([]byte{255}, size)), librarySum(bytes.Repeat([]byte{255}, size)))
	}
}

// A length whose bits need more than three bytes.
func TestP201SumOfLong(t *testing.T) {
	for _, size := range []int{1 << 13, 1<<16 - 1, 1 << 16, 1<<21 - 9, 1<<21 + 5} {
		b := some(size)
		same(t, "Sum", digest.Sum(b), librarySum(b))
	}
}

// The cases of RFC 4231.
func TestP201MacExamples(t *testing.T) {
	cases := []struct {
		key  []byte
		text []byte
		mac  string
	}{
		{bytes.Repeat([]byte{0x0b}, 20), []byte("Hi There"),
			"b0344c61d8db38535ca8afceaf0bf12b881dc200c9833da726e9376c2e32cff7"},
		{[]byte("Jefe"), []byte("what do ya want for nothing?"),
			"5bdcc146bf60754e6a042426089575c75a003f089d2739839dec58b964ec3843"},
		{bytes.Repeat([]byte{0xaa}, 20), bytes.Repeat([]byte{0xdd}, 50),
			"773ea91e36800e46854db8ebd09181a72959098b3ef8c122d9635514ced565fe"},
		{bytes.Repeat([]byte{0xaa}, 131), []byte("Test Using Larger Than Block-Size Key - Hash Key First"),
			"60e431591ee0b67f0d8a26aacbf5b77f8e0bc6213728c5140546040f0ee37f54"},
		{nil, nil, "b613679a0814d9ec772f95d778c35fc5ff1697c493715653c6c712144292c5ad"},
	}
	for _, c := range cases {
		same(t, "Mac", digest.Mac(c.key, c.text), told(t, c.mac))
	}
}

// Keys of each length up to two blocks and more: 63, 64 and 65 bytes among them.
func TestP201MacOfEachKey(t *testing.T) {
	for size := range 200 {
		key := some(size)
		for _, length := range []int{0, 1, 31, 55, 56, 63, 64, 65, 119, 120, 128} {
			b := some(length)
			same(t, "Mac", digest.Mac(key, b), libraryMac(key, b))
		}
	}
}

func TestP201MacKeyOfOneBlockIsNotSummed(t *testing.T) {
	b := []byte("text")
	at, above := some(64), some(65)
	if bytes.Equal(digest.Mac(at, b), digest.Mac(digest.Sum(at), b)) {
		t.Error("a key of 64 bytes was taken for its Sum")
	}
	same(t, "key of 65", digest.Mac(above, b), digest.Mac(digest.Sum(above), b))
	same(t, "zeros behind a key", digest.Mac([]byte{1}, b), digest.Mac(append([]byte{1}, make([]byte, 63)...), b))
	same(t, "no key", digest.Mac(nil, b), digest.Mac(make([]byte, 64), b))
}

func TestP201Memory(t *testing.T) {
	for _, size := range []int{0, 3, 32, 55, 64, 65, 200} {
		b, checkB := roomy(t, some(size))
		key, checkKey := roomy(t, some(size+1))
		sum, mac := digest.Sum(b), digest.Mac(key, b)
		if len(sum) != 32 || len(mac) != 32 {
			t.Errorf("%d and %d bytes, not 32", len(sum), len(mac))
		}
		spoil(sum)
		spoil(mac)
		checkB()
		checkKey()
		same(t, "Sum again", digest.Sum(b), librarySum(b))
		same(t, "Mac again", digest.Mac(key, b), libraryMac(key, b))
		same(t, "Mac by a key that is the text", digest.Mac(b, b), libraryMac(b, b))
	}
}

func FuzzP201(f *testing.F) {
	f.Add([]byte("Jefe"), []byte("what do ya want for nothing?"))
	f.Add(some(64), some(55))
	f.Add(some(65), some(56))
	f.Fuzz(func(t *testing.T, key, b []byte) {
		same(t, "Sum", digest.Sum(b), librarySum(b))
		same(t, "Mac", digest.Mac(key, b), libraryMac(key, b))
		h := digest.New()
		h.Add(key)
		h.Sum()
		h.Add(b)
		same(t, "Hash", h.Sum(), librarySum(append(bytes.Clone(key), b...)))
	})
}
