package digest_test

import (
	"bytes"
	"testing"

	"bulwark/digest"
)

func TestP204OfNothing(t *testing.T) {
	h := digest.New()
	same(t, "Sum", h.Sum(), digest.Sum(nil))
	h.Add(nil)
	h.Add([]byte{})
	same(t, "Sum of empty ones", h.Sum(), digest.Sum(nil))
	var zero digest.Hash
	same(t, "Sum of a zero one", zero.Sum(), digest.Sum(nil))
	zero.Add(some(100))
	same(t, "Sum of a zero one with bytes", zero.Sum(), librarySum(some(100)))
}

func TestP204Nil(t *testing.T) {
	var h *digest.Hash
	h.Add(nil)
	h.Add([]byte("abc"))
	h.Add(some(200))
	if sum := h.Sum(); len(sum) != 0 {
		t.Errorf("Sum of a nil hash: %x", sum)
	}
}

// Sum is asked behind each byte, often, and the hash goes on.
func TestP204SumLeavesTheHash(t *testing.T) {
	b := some(300)
	h := digest.New()
	for i := range b {
		same(t, "Sum", h.Sum(), librarySum(b[:i]))
		same(t, "Sum again", h.Sum(), librarySum(b[:i]))
		h.Add(b[i : i+1])
	}
	same(t, "Sum of all", h.Sum(), librarySum(b))
}

func TestP204SumsMemory(t *testing.T) {
	for _, size := range []int{0, 10, 55, 56, 63, 64, 130} {
		b := some(size)
		h := digest.New()
		h.Add(b)
		first := h.Sum()
		if len(first) != 32 {
			t.Errorf("%d bytes, not 32", len(first))
		}
		kept := h.Sum()
		spoil(first)
		same(t, "another answer", kept, librarySum(b))
		same(t, "Sum again", h.Sum(), librarySum(b))
		h.Add(some(70))
		same(t, "an answer ahead of Add", kept, librarySum(b))
		same(t, "Sum of more", h.Sum(), librarySum(append(b, some(70)...)))
	}
}

func TestP204AddsMemory(t *testing.T) {
	for _, size := range []int{0, 10, 55, 64, 130} {
		b, check := roomy(t, some(size))
		h := digest.New()
		h.Add(b)
		h.Sum()
		check()
		spoil(b)
		same(t, "Sum", h.Sum(), librarySum(some(size)))
	}
}

func TestP204ItsOwnSum(t *testing.T) {
	h := digest.New()
	h.Add([]byte("abc"))
	h.Add(h.Sum())
	same(t, "Sum", h.Sum(), librarySum(append([]byte("abc"), librarySum([]byte("abc"))...)))
}

func TestP204HashesShareNothing(t *testing.T) {
	one, two := digest.New(), digest.New()
	for i := range 200 {
		one.Add([]byte{byte(i)})
		two.Add([]byte{byte(i), 1})
	}
	var b, c []byte
	for i := range 200 {
		b = append(b, byte(i))
		c = append(c, byte(i), 1)
	}
	same(t, "one", one.Sum(), librarySum(b))
	same(t, "two", two.Sum(), librarySum(c))
}

// P205: bytes that come in parts have one sum, wherever two cuts are.
func TestP205PartsHaveOneSum(t *testing.T) {
	b := some(150)
	want := librarySum(b)
	for first := range len(b) + 1 {
		for second := first; second <= len(b); second++ {
			h := digest.New()
			h.Add(b[:first])
			h.Add(b[first:second])
			h.Add(b[second:])
			if got := h.Sum(); !bytes.Equal(got, want) {
				t.Fatalf("cut at %d and %d: %x, not %x", first, second, got, want)
			}
		}
	}
}

func TestP205PartsOfOneSize(t *testing.T) {
	b := some(1000)
	for step := 1; step <= 200; step++ {
		h := digest.New()
		for from := 0; from < len(b); from += step {
			h.Add(b[from:min(from+step, len(b))])
		}
		same(t, "Sum", h.Sum(), digest.Sum(b))
	}
}
