package proof_test

import (
	"bytes"
	"fmt"
	"slices"
	"testing"

	"bulwark/api"
	"bulwark/proof"
	"bulwark/tree"
)

// P801: the chapter's example.
func TestP801EmptyTree(t *testing.T) {
	var empty *tree.Tree
	none, _ := tree.Make(nil)
	for _, lo := range edges(nil) {
		for _, hi := range edges(nil) {
			samePart(t, "of nil", proof.Build(empty, lo, hi), part{})
			samePart(t, "of no item", proof.Build(none, lo, hi), part{})
		}
	}
	same(t, "its hash", proof.Hash(proof.Build(nil, nil, nil)), empty.Root())
}

// small: k0 and k2 are of level 1, k1 and k3 of level 0.
func small() []api.Item {
	return []api.Item{
		{Key: []byte("k0"), Value: []byte("v0")},
		{Key: []byte("k1"), Value: []byte("v1")},
		{Key: []byte("k2"), Value: []byte("v2")},
		{Key: []byte("k3")},
	}
}

func leafPart(key, value string, known bool) part {
	p := part{Keys: [][]byte{[]byte(key)}, Known: []bool{known}, Vals: [][]byte{[]byte(value)}, Kids: []part{{}, {}}}
	if !known {
		p.Vals[0] = sum(value)
	}
	return p
}

// smallPart: k0 and k2 known or not, with the two kids that hold k1 and k3; none stands ahead of k0.
func smallPart(known0, known2 bool, kid1, kid3 part) part {
	p := part{Level: 1, Keys: [][]byte{[]byte("k0"), []byte("k2")}, Known: []bool{known0, known2}, Kids: []part{{}, kid1, kid3}}
	p.Vals = [][]byte{sum("v0"), sum("v2")}
	if known0 {
		p.Vals[0] = []byte("v0")
	}
	if known2 {
		p.Vals[1] = []byte("v2")
	}
	return p
}

func prunedPart(p part) part {
	return part{Pruned: true, Sum: hashOf(p)}
}

// P801: parts written out, at bounds where a kid may just be pruned and where it just may not.
func TestP801WrittenOut(t *testing.T) {
	x := made(t, small())
	leaf1, leaf3 := leafPart("k1", "v1", true), leafPart("k3", "", true)
	dark1, dark3 := leafPart("k1", "v1", false), leafPart("k3", "", false)
	off1, off3 := prunedPart(leaf1), prunedPart(leaf3)
	cases := []struct {
		lo, hi string
		want   part
	}{
		{"", "l", smallPart(true, true, leaf1, leaf3)},
		{"k1", "k2", smallPart(false, false, leaf1, off3)},
		{"k2", "k2\x00", smallPart(false, true, off1, off3)},
		{"k2", "k2\x00\x00", smallPart(false, true, off1, dark3)},
		{"k1\xff", "k2\x00", smallPart(false, true, dark1, off3)},
		{"k2\x00", "k3", smallPart(false, false, off1, dark3)},
		{"k3", "k3\x00", smallPart(false, false, off1, leaf3)},
		{"k0", "k0\x00", smallPart(true, false, off1, off3)},
		{"k0", "k0\x00\x00", smallPart(true, false, dark1, off3)},
		{"", "k0", smallPart(false, false, off1, off3)},
		{"", "\x00", smallPart(false, false, off1, off3)},
		{"l", "m", smallPart(false, false, off1, dark3)},
		{"k1\x00", "k1\x00\x00", smallPart(false, false, dark1, off3)},
	}
	for _, c := range cases {
		p := proof.Build(x, []byte(c.lo), []byte(c.hi))
		samePart(t, fmt.Sprintf("Build of %q to %q", c.lo, c.hi), p, c.want)
		same(t, "its hash", proof.Hash(p), x.Root())
	}
}

// P801: where lo is not below hi the top itself is pruned, unless it is none.
func TestP801TopPruned(t *testing.T) {
	x := made(t, small())
	want := part{Pruned: true, Sum: x.Root()}
	for _, c := range [][2][]byte{{nil, nil}, {nil, {}}, {{}, nil}, {{0}, nil}, {[]byte("k1"), []byte("k1")}, {[]byte("k1\x00"), []byte("k1")}, {[]byte("z"), []byte("a")}} {
		samePart(t, fmt.Sprintf("Build of %q", c), proof.Build(x, c[0], c[1]), want)
	}
}

// P801: every pair of edges of trees of several levels, against the words.
func TestP801EveryEdge(t *testing.T) {
	for _, keys := range [][][]byte{keysAt(0, 1), keysAt(2, 3), slices.Concat(keysAt(0, 4), keysAt(1, 2), keysAt(2, 1)), mixed()} {
		items := itemsFor(keys)
		x := made(t, items)
		all := edges(keys)
		for _, lo := range all {
			for _, hi := range all {
				p := proof.Build(x, lo, hi)
				what := fmt.Sprintf("of %d keys, %q to %q", len(keys), lo, hi)
				samePart(t, "Build "+what, p, buildOf(items, frameOf(lo, hi)))
				same(t, "Hash "+what, proof.Hash(p), x.Root())
			}
		}
	}
}

// words: all bytes of up to so many, each below 3, the empty ones too.
func words(size int) [][]byte {
	out := [][]byte{{}}
	for from := 0; size > 0; size-- {
		to := len(out)
		for _, x := range out[from:to] {
			for i := range byte(3) {
				out = append(out, append(bytes.Clone(x), i))
			}
		}
		from = to
	}
	return out
}

// P801: a part is pruned just where no word that could stand there is asked for; all words are tried.
func TestP801PrunedWhereNothingCanStand(t *testing.T) {
	words4, short := words(4), words(2)
	items := itemsFor(words(3)[1:])
	x := made(t, items)
	count := [2]int{}
	var look func(p part, f frame)
	look = func(p part, f frame) {
		if !p.Pruned && len(p.Keys) == 0 {
			return
		}
		can := slices.ContainsFunc(words4, func(w []byte) bool { return f.holds(w) && f.asked(w) })
		if p.Pruned == can {
			t.Errorf("between %v and %v, asked for %q to %q: pruned is %v", f.low, f.high, f.lo, f.hi, p.Pruned)
		}
		if p.Pruned {
			count[1]++
		} else {
			count[0]++
		}
		for i, kid := range p.Kids {
			look(kid, f.about(p.Keys, i))
		}
	}
	for _, lo := range short {
		for _, hi := range short {
			look(proof.Build(x, lo, hi), frameOf(lo, hi))
		}
	}
	if count[0] < 100 || count[1] < 100 {
		t.Errorf("only %d were asked for", count)
	}
}

func TestP801LongKeysAndValues(t *testing.T) {
	items := []api.Item{{Key: longKey(0, 256), Value: bytes.Repeat([]byte{1}, 1024)}, {Key: longKey(1, 256)}, {Key: longKey(0, 1)}}
	x := made(t, items)
	slices.SortFunc(items, func(a, b api.Item) int { return bytes.Compare(a.Key, b.Key) })
	for _, lo := range edges([][]byte{longKey(0, 256), longKey(1, 256)}) {
		for _, hi := range edges([][]byte{longKey(0, 256), longKey(1, 256)}) {
			samePart(t, "Build", proof.Build(x, lo, hi), buildOf(items, frameOf(lo, hi)))
		}
	}
}

func TestP801NewMemory(t *testing.T) {
	items := itemsFor(mixed())
	x := made(t, items)
	for _, hi := range [][]byte{[]byte("k5"), beyond(), nil} {
		lo := []byte("k2")
		want := buildOf(items, frameOf(lo, hi))
		first, second := proof.Build(x, lo, hi), proof.Build(x, lo, hi)
		spoilPart(first)
		samePart(t, "another", second, want)
		samePart(t, "behind it", proof.Build(x, lo, hi), want)
		same(t, "Root", x.Root(), hashOf(buildOf(items, frameOf(nil, beyond()))))
	}
}

// P801: no list of a part is seen in another one, nor in its spare room.
func TestP801SharesNothingInside(t *testing.T) {
	x := made(t, itemsFor(mixed()))
	p := proof.Build(x, []byte("k2"), []byte("k5"))
	var lists [][]byte
	for _, y := range within(&p) {
		lists = append(append(append(lists, y.Sum), y.Keys...), y.Vals...)
	}
	for i, list := range lists {
		var before [][]byte
		for _, other := range lists {
			before = append(before, bytes.Clone(other))
		}
		spoil(list)
		for j := range lists {
			if j != i {
				same(t, "beside", lists[j], before[j])
			}
		}
	}
}

func TestP801ChangesNothing(t *testing.T) {
	items := itemsFor(mixed())
	x := made(t, items)
	lo, hi := roomy([]byte("k2"), 7, 7), roomy([]byte("k5"), 7, 7)
	p := proof.Build(x, lo, hi)
	same(t, "lo", lo[:4], []byte("k2\x07\x07"))
	same(t, "hi", hi[:4], []byte("k5\x07\x07"))
	spoil(lo)
	spoil(hi)
	samePart(t, "Build", p, buildOf(items, frameOf([]byte("k2"), []byte("k5"))))
	sameTree(t, x, items)
}

func sameTree(t *testing.T, x *tree.Tree, want []api.Item) {
	t.Helper()
	items, _ := x.Items(nil, beyond(), len(want)+1)
	sameItems(t, "the tree", items, want)
}
