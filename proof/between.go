package proof

import (
	"bytes"
	"slices"
)

// stretch: the keys that are asked for, not below lo, and below hi.
type stretch struct{ lo, hi []byte }

func (s stretch) has(key []byte) bool {
	return bytes.Compare(key, s.lo) >= 0 && bytes.Compare(key, s.hi) < 0
}

func (s stretch) empty() bool {
	return bytes.Compare(s.lo, s.hi) >= 0
}

// bounds: all keys of a part stand between them. An empty one is no bound, since no key is empty.
type bounds struct{ low, high []byte }

func (b bounds) from(key []byte) bounds {
	return bounds{key, b.high}
}

func (b bounds) upTo(key []byte) bounds {
	return bounds{b.low, key}
}

func (b bounds) around(key []byte) bool {
	if len(b.high) > 0 && bytes.Compare(key, b.high) >= 0 {
		return false
	}
	return bytes.Compare(b.low, key) < 0
}

// miss: the least key that can stand above low is low with a byte 0 behind it.
func (b bounds) miss(s stretch) bool {
	if s.empty() {
		return true
	}
	if len(b.high) > 0 && bytes.Compare(b.high, s.lo) <= 0 {
		return true
	}
	return len(b.low) > 0 && bytes.Compare(slices.Concat(b.low, []byte{0}), s.hi) >= 0
}
