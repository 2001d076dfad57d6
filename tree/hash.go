package tree

import (
	"strings"

	"bulwark/digest"
	"bulwark/wire"
)

func Level(key []byte) int {
	hex := digest.Hex(digest.Of("level", [][]byte{key}))
	return len(hex) - len(strings.TrimLeft(hex, "0"))
}

func Hash(n *Node) []byte {
	return hashOf(n, map[*Node][]byte{})
}

func Form(level int, keys, sums, kids [][]byte) []byte {
	form := wire.Bytes(nil, []byte("node"))
	form = wire.Uint(form, uint64(level))
	form = wire.Uint(form, uint64(len(keys)))
	// each call of wire copies what it is given, so long forms are put behind one another here
	put := func(x []byte) {
		form = append(form, wire.Bytes(nil, x)...)
	}
	put(at(kids, 0))
	for i, key := range keys {
		put(key)
		put(at(sums, i))
		put(at(kids, i+1))
	}
	return form
}

// hashOf has the hashes that are known already: a caller's node may stand in many places, even beneath itself, and none is gone through twice.
func hashOf(n *Node, known map[*Node][]byte) []byte {
	if n == nil {
		return digest.Sum([]byte("empty"))
	}
	if hash, has := known[n]; has {
		return hash
	}
	known[n] = digest.Sum(nil)
	if len(n.Vals) == len(n.Keys) && len(n.Kids) == len(n.Keys)+1 {
		known[n] = digest.Sum(formOf(n, known))
	}
	return known[n]
}

func formOf(n *Node, known map[*Node][]byte) []byte {
	var sums, kids [][]byte
	for _, value := range n.Vals {
		sums = append(sums, digest.Sum(value))
	}
	for _, kid := range n.Kids {
		kids = append(kids, hashOf(kid, known))
	}
	return Form(n.Level, n.Keys, sums, kids)
}

// at: what is missing is empty.
func at(l [][]byte, i int) []byte {
	if i < len(l) {
		return l[i]
	}
	return nil
}
