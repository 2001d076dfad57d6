package proof

import (
	"bulwark/digest"
	"bulwark/tree"
)

// kidList: by where it stands in memory, so that one that many parts have is known again.
type kidList struct {
	first *Part
	count int
}

// Hash works out each list of kids once, since a caller's may stand in very many places, even beneath itself.
func Hash(p Part) []byte {
	known := map[kidList][][]byte{}
	var hash func(p Part) []byte
	hashes := func(kids []Part) [][]byte {
		if len(kids) == 0 {
			return nil
		}
		name := kidList{&kids[0], len(kids)}
		if _, has := known[name]; has {
			return known[name]
		}
		known[name] = nil
		var out [][]byte
		for _, kid := range kids {
			out = append(out, hash(kid))
		}
		known[name] = out
		return out
	}
	hash = func(p Part) []byte {
		switch {
		case p.Pruned:
			return own(p.Sum)
		case none(p):
			return tree.Hash(nil)
		}
		return digest.Sum(tree.Form(p.Level, p.Keys, sums(p), hashes(p.Kids)))
	}
	return hash(p)
}

// sums: of a value that nothing is known of, what stands there is its sum already.
func sums(p Part) [][]byte {
	var out [][]byte
	for i, value := range p.Vals {
		if at(p.Known, i) {
			value = digest.Sum(value)
		}
		out = append(out, value)
	}
	return out
}

// at: what is missing is zero.
func at[T any](l []T, i int) T {
	var zero T
	if i < len(l) {
		return l[i]
	}
	return zero
}
