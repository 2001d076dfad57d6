package proof_test

import (
	"bytes"
	"fmt"
	"math"
	"testing"

	"bulwark/api"
	"bulwark/proof"
)

// lists: so many of them, each its own.
func lists(count int, name string) [][]byte {
	var out [][]byte
	for i := range count {
		out = append(out, fmt.Appendf(nil, "%s %d", name, i))
	}
	return out
}

// P802: of a pruned part its Sum, whatever else it has, and whatever that is.
func TestP802HashOfPruned(t *testing.T) {
	for _, x := range [][]byte{nil, {}, {1}, sum("x"), bytes.Repeat([]byte{5}, 300)} {
		same(t, "Sum alone", proof.Hash(part{Pruned: true, Sum: x}), x)
		full := leafPart("k1", "v1", true)
		full.Pruned, full.Sum = true, x
		same(t, "with more", proof.Hash(full), x)
	}
}

// P802: a part without Keys and Kids stands for no node, whatever else it has.
func TestP802HashOfNone(t *testing.T) {
	for _, p := range []part{
		{},
		{Level: 5},
		{Sum: sum("x")},
		{Known: []bool{true}, Vals: [][]byte{{1}}},
		{Keys: [][]byte{}, Kids: []part{}},
	} {
		same(t, "Hash", proof.Hash(p), sum("empty"))
	}
}

// P802: the form written out.
func TestP802HashWrittenOut(t *testing.T) {
	empty := string(sum("empty"))
	leaf := string(sum("\x04node\x00\x01\x20" + empty + "\x02k1\x20" + string(sum("v1")) + "\x20" + empty))
	far := bytes.Repeat([]byte{9}, 32)
	p := smallPart(true, false, leafPart("k1", "v1", true), part{Pruned: true, Sum: far})
	want := sum("\x04node\x01\x02\x20" + empty + "\x02k0\x20" + string(sum("v0")) + "\x20" + leaf + "\x02k2\x20" + string(sum("v2")) + "\x20" + string(far))
	same(t, "Hash", proof.Hash(p), want)
	same(t, "as it is known", proof.Hash(smallPart(false, true, leafPart("k1", "v1", false), part{Pruned: true, Sum: far})), want)
	p.Sum = sum("of no use")
	same(t, "with a Sum", proof.Hash(p), want)
}

// P802: of any numbers of Known, Vals and Kids: what is missing is empty, what is more counts for nothing.
func TestP802HashOfAnyCounts(t *testing.T) {
	for keys := range 4 {
		for known := range 5 {
			for vals := range 5 {
				for kids := range 6 {
					p := part{Level: 3, Keys: lists(keys, "key"), Vals: lists(vals, "value")}
					for i := range known {
						p.Known = append(p.Known, i%2 == 0)
					}
					for i := range kids {
						p.Kids = append(p.Kids, part{Pruned: true, Sum: fmt.Appendf(nil, "kid %d", i)})
					}
					what := fmt.Sprintf("Hash of %d keys, %d known, %d values, %d kids", keys, known, vals, kids)
					same(t, what, proof.Hash(p), hashOf(p))
					over := part{Level: 4, Keys: lists(1, "over"), Known: []bool{true}, Vals: lists(1, "over"), Kids: []part{p, {}}}
					same(t, "over it: "+what, proof.Hash(over), hashOf(over))
				}
			}
		}
	}
	missing := part{Keys: [][]byte{{1}}, Known: []bool{true}}
	same(t, "a missing value", proof.Hash(missing), sum("\x04node\x00\x01\x00\x01\x01\x00\x00"))
}

// P802: of parts that no tree has.
func TestP802HashOfAnyPart(t *testing.T) {
	for _, level := range []int{math.MinInt, -1, 0, 64, 65, 300, math.MaxInt} {
		for _, p := range []part{
			{Level: level, Kids: []part{{}}},
			{Level: level, Keys: [][]byte{nil}, Known: []bool{true}, Vals: [][]byte{nil}, Kids: []part{{}, {}}},
			{Level: level, Keys: [][]byte{bytes.Repeat([]byte{1}, 400)}, Known: []bool{false}, Vals: [][]byte{{1, 2}}, Kids: []part{{}, {}}},
			{Level: level, Keys: [][]byte{{9}, {9}, {1}}, Known: []bool{false, true, false}, Vals: lists(3, "v"), Kids: make([]part, 4)},
		} {
			same(t, fmt.Sprint("Hash of level ", level), proof.Hash(p), hashOf(p))
		}
	}
}

// deep: parts within one another, so many around the inmost one, each with a key of its own.
func deep(depth int, inmost part) part {
	p := inmost
	for i := range depth {
		p = part{Level: i % 65, Keys: [][]byte{{byte(i)}}, Known: []bool{true}, Vals: [][]byte{{1}}, Kids: []part{p, {}}}
	}
	return p
}

// P802: as deep as the document's bound lets parts nest.
func TestP802DeepestPart(t *testing.T) {
	p := deep(1<<16-1, part{})
	same(t, "Hash", proof.Hash(p), hashOf(p))
	list, kind := proof.Verify(hashOf(p), nil, beyond(), p)
	is(t, "items", len(list), 0)
	is(t, "Verify", kind, api.BadProof)
}

// doubled: few lists of kids that stand in very many places.
func doubled(depth int, keys [][]byte) (p part, hash []byte) {
	hash = sum("empty")
	for range depth {
		p = part{Level: 1, Keys: keys, Known: make([]bool, len(keys)), Vals: keys, Kids: []part{p, p}}
		form := append(text("node"), 1, byte(len(keys)))
		form = append(form, text(hash)...)
		for _, key := range keys {
			form = append(append(append(form, text(key)...), text(key)...), text(hash)...)
		}
		hash = sum(form)
	}
	return p, hash
}

// P802: calls end, also of kids that stand in many places, and of some that stand beneath themselves.
func TestP802CallsEnd(t *testing.T) {
	for _, keys := range [][][]byte{nil, {{1}}} {
		p, hash := doubled(64, keys)
		same(t, "Hash", proof.Hash(p), hash)
		_, kind := proof.Verify(hash, nil, beyond(), p)
		is(t, "Verify", kind, api.BadProof)
		kids := make([]part, 2)
		kids[0] = part{Level: 1, Keys: keys, Known: make([]bool, len(keys)), Vals: keys, Kids: kids}
		kids[1] = kids[0]
		is(t, "bytes of a hash", len(proof.Hash(kids[0])), 32)
		_, kind = proof.Verify(sum("x"), nil, beyond(), kids[0])
		is(t, "Verify", kind, api.BadProof)
		_, kind = proof.Bytes(kids[0])
		is(t, "Bytes", kind, api.TooLarge)
	}
}

func TestP802HashChangesNothing(t *testing.T) {
	x := made(t, itemsFor(mixed()))
	for _, p := range []part{proof.Build(x, []byte("k2"), []byte("k5")), {Pruned: true, Sum: sum("x")}, {Keys: lists(2, "k"), Kids: []part{{}}}} {
		p = clone(p)
		before, want := dump(p), bytes.Clone(hashOf(p))
		hash := proof.Hash(p)
		is(t, "the part", dump(p), before)
		spoil(hash)
		is(t, "behind it", dump(p), before)
		again := proof.Hash(p)
		same(t, "Hash", again, want)
		spoilPart(p)
		same(t, "Hash that is kept", again, want)
	}
}
