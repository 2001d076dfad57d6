package digest

import "math/bits"

const (
	blockSize  = 64
	wordSize   = 4
	sumSize    = 32
	lengthSize = 8 // bytes of the length that ends the last block
	padMark    = 128
)

// firstWords: of the first eight primes' square roots, the first 32 bits behind the point.
var firstWords = [8]uint32{
	0x6a09e667, 0xbb67ae85, 0x3c6ef372, 0xa54ff53a, 0x510e527f, 0x9b05688c, 0x1f83d9ab, 0x5be0cd19,
}

// roundWords: of the first 64 primes' cube roots, the first 32 bits behind the point.
var roundWords = [64]uint32{
	0x428a2f98, 0x71374491, 0xb5c0fbcf, 0xe9b5dba5, 0x3956c25b, 0x59f111f1, 0x923f82a4, 0xab1c5ed5,
	0xd807aa98, 0x12835b01, 0x243185be, 0x550c7dc3, 0x72be5d74, 0x80deb1fe, 0x9bdc06a7, 0xc19bf174,
	0xe49b69c1, 0xefbe4786, 0x0fc19dc6, 0x240ca1cc, 0x2de92c6f, 0x4a7484aa, 0x5cb0a9dc, 0x76f988da,
	0x983e5152, 0xa831c66d, 0xb00327c8, 0xbf597fc7, 0xc6e00bf3, 0xd5a79147, 0x06ca6351, 0x14292967,
	0x27b70a85, 0x2e1b2138, 0x4d2c6dfc, 0x53380d13, 0x650a7354, 0x766a0abb, 0x81c2c92e, 0x92722c85,
	0xa2bfe8a1, 0xa81a664b, 0xc24b8b70, 0xc76c51a3, 0xd192e819, 0xd6990624, 0xf40e3585, 0x106aa070,
	0x19a4c116, 0x1e376c08, 0x2748774c, 0x34b0bcb5, 0x391c0cb3, 0x4ed8aa4a, 0x5b9cca4f, 0x682e6ff3,
	0x748f82ee, 0x78a5636f, 0x84c87814, 0x8cc70208, 0x90befffa, 0xa4506ceb, 0xbef9a3f7, 0xc67178f2,
}

// Hash: of bytes that come.
type Hash struct {
	added [8]uint32       // by the blocks to the first words: so a zero Hash is one of nothing
	block [blockSize]byte // begins with the bytes that fill no block yet
	size  uint64
}

func New() *Hash {
	return new(Hash)
}

func (h *Hash) Add(b []byte) {
	if h == nil {
		return
	}
	for len(b) > 0 {
		n := copy(h.block[h.size%blockSize:], b)
		h.size += uint64(n)
		b = b[n:]
		if h.size%blockSize == 0 {
			h.mix()
		}
	}
}

// Sum pads a copy, since more bytes may come to the hash itself.
func (h *Hash) Sum() []byte {
	if h == nil {
		return nil
	}
	padded := *h
	padded.pad()
	out := make([]byte, 0, sumSize)
	for _, word := range padded.words() {
		out = append(out, byte(word>>24), byte(word>>16), byte(word>>8), byte(word))
	}
	return out
}

func (h *Hash) pad() {
	var tail [blockSize + lengthSize]byte
	tail[0] = padMark
	end := blockSize - h.size%blockSize
	if end <= lengthSize {
		end += blockSize
	}
	length := h.size * 8
	for i := range uint64(lengthSize) {
		tail[end-1-i] = byte(length >> (8 * i))
	}
	h.Add(tail[:end])
}

func (h *Hash) words() [8]uint32 {
	words := firstWords
	for i, more := range h.added {
		words[i] += more
	}
	return words
}

func (h *Hash) mix() {
	w := h.schedule()
	words := h.words()
	a, b, c, d := words[0], words[1], words[2], words[3]
	e, f, g, last := words[4], words[5], words[6], words[7]
	for t := range roundWords {
		turnedE := bits.RotateLeft32(e, -6) ^ bits.RotateLeft32(e, -11) ^ bits.RotateLeft32(e, -25)
		t1 := last + turnedE + (e&f ^ ^e&g) + roundWords[t] + w[t]
		turnedA := bits.RotateLeft32(a, -2) ^ bits.RotateLeft32(a, -13) ^ bits.RotateLeft32(a, -22)
		t2 := turnedA + (a&b ^ a&c ^ b&c)
		a, b, c, d, e, f, g, last = t1+t2, a, b, c, d+t1, e, f, g
	}
	for i, more := range [8]uint32{a, b, c, d, e, f, g, last} {
		h.added[i] += more
	}
}

func (h *Hash) schedule() [64]uint32 {
	var w [64]uint32
	for t := range blockSize / wordSize {
		for _, x := range h.block[wordSize*t : wordSize*(t+1)] {
			w[t] = w[t]<<8 | uint32(x)
		}
	}
	for t := blockSize / wordSize; t < len(w); t++ {
		early, late := w[t-15], w[t-2]
		low := bits.RotateLeft32(early, -7) ^ bits.RotateLeft32(early, -18) ^ early>>3
		high := bits.RotateLeft32(late, -17) ^ bits.RotateLeft32(late, -19) ^ late>>10
		w[t] = w[t-16] + low + w[t-7] + high
	}
	return w
}
