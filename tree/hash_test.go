package tree_test

import (
	"bytes"
	"encoding/hex"
	"fmt"
	"math"
	"slices"
	"testing"

	"bulwark/api"
	"bulwark/tree"
)

// P704: the chapter's example, with the sum written out.
func TestP704Empty(t *testing.T) {
	var x *tree.Tree
	const empty = "2e1cfa82b035c26cbbbdae632cea070514eb8b773f616aaeaf668e2f0be8f10d"
	is(t, "Root of nil", hex.EncodeToString(x.Root()), empty)
	is(t, "Hash of nil", hex.EncodeToString(tree.Hash(nil)), empty)
	is(t, "Top of nil", x.Top() == nil, true)
	made, _ := tree.Make(nil)
	is(t, "Root of none", hex.EncodeToString(made.Root()), empty)
	is(t, "Top of none", made.Top() == nil, true)
}

// P704: a tree whose shape and form are written out: k0 and k2 are of level 1, k1 and k3 of level 0.
func TestP704ShapeWrittenOut(t *testing.T) {
	s := store{"k0": "v0", "k1": "v1", "k2": "v2", "k3": ""}
	leaf := func(key, value string) *tree.Node {
		return &tree.Node{Keys: [][]byte{[]byte(key)}, Vals: [][]byte{[]byte(value)}, Kids: []*tree.Node{nil, nil}}
	}
	want := &tree.Node{
		Level: 1,
		Keys:  [][]byte{[]byte("k0"), []byte("k2")},
		Vals:  [][]byte{[]byte("v0"), []byte("v2")},
		Kids:  []*tree.Node{nil, leaf("k1", "v1"), leaf("k3", "")},
	}
	x := made(t, s.items())
	sameNode(t, "Top", x.Top(), want)

	empty := sum([]byte("empty"))
	form := func(key, value string) []byte {
		return slices.Concat([]byte("\x04node\x00\x01\x20"), empty, []byte("\x02"+key+"\x20"), sum([]byte(value)), []byte{32}, empty)
	}
	top := slices.Concat([]byte("\x04node\x01\x02\x20"), empty,
		[]byte("\x02k0\x20"), sum([]byte("v0")), []byte{32}, sum(form("k1", "v1")),
		[]byte("\x02k2\x20"), sum([]byte("v2")), []byte{32}, sum(form("k3", "")))
	same(t, "Root", x.Root(), sum(top))
	same(t, "Hash", tree.Hash(want), sum(top))
	same(t, "Hash of a kid", tree.Hash(want.Kids[1]), sum(form("k1", "v1")))
}

// P704: what Top hands out is the whole shape, in memory of its own.
func TestP704TopIsNewMemory(t *testing.T) {
	s := storeOf(mixed())
	x := made(t, s.items())
	y := put(t, x, []byte("k"), []byte("put"))
	var spoilAll func(n *tree.Node)
	spoilAll = func(n *tree.Node) {
		if n == nil {
			return
		}
		for i := range n.Keys {
			spoil(n.Keys[i])
			spoil(n.Vals[i])
		}
		for _, kid := range n.Kids {
			spoilAll(kid)
		}
		n.Level = 99
		clear(n.Keys[:cap(n.Keys)])
		clear(n.Vals[:cap(n.Vals)])
		clear(n.Kids[:cap(n.Kids)])
	}
	first, second := x.Top(), x.Top()
	spoilAll(first)
	spoilAll(y.Top())
	sameNode(t, "another Top", second, nodeOf(s.items()))
	holds(t, "spoiled", x, s)
	holds(t, "spoiled", y, s.with([]byte("k"), []byte("put")))
}

func TestP704TopSharesNothingInside(t *testing.T) {
	top := made(t, storeOf(mixed()).items()).Top()
	var lists [][]byte
	var gather func(n *tree.Node)
	gather = func(n *tree.Node) {
		if n != nil {
			lists = append(append(lists, n.Keys...), n.Vals...)
			for _, kid := range n.Kids {
				gather(kid)
			}
		}
	}
	gather(top)
	is(t, "lists", len(lists), 2*len(mixed()))
	for i, list := range lists {
		before := slices.Clone(lists)
		for j := range before {
			before[j] = bytes.Clone(lists[j])
		}
		spoil(list)
		for j := range lists {
			if j != i {
				same(t, "beside", lists[j], before[j])
			}
		}
	}
}

func TestP704RootIsNewMemory(t *testing.T) {
	s := storeOf(mixed())
	x := made(t, s.items())
	spoil(x.Root())
	spoil(tree.Hash(nil))
	spoil(tree.Hash(&tree.Node{}))
	spoil(tree.Hash(x.Top()))
	same(t, "Root", x.Root(), hashOf(nodeOf(s.items())))
	same(t, "Hash of nil", tree.Hash(nil), sum([]byte("empty")))
	same(t, "Hash of a wrong one", tree.Hash(&tree.Node{}), sum(nil))
}

// lists: so many of them, each its own.
func lists(count int, name string) [][]byte {
	var out [][]byte
	for i := range count {
		out = append(out, fmt.Appendf(nil, "%s %d", name, i))
	}
	return out
}

// P704: Vals, Kids as they stand, as many as they are.
func TestP704HashOfAnyCounts(t *testing.T) {
	for keys := range 4 {
		for vals := range 5 {
			for kids := range 6 {
				n := &tree.Node{Level: 3, Keys: lists(keys, "key"), Vals: lists(vals, "value"), Kids: make([]*tree.Node, kids)}
				what := fmt.Sprintf("Hash of %d keys, %d values, %d kids", keys, vals, kids)
				same(t, what, tree.Hash(n), hashOf(n))
				if vals != keys || kids != keys+1 {
					same(t, what, tree.Hash(n), sum(nil))
				}
				over := &tree.Node{Level: 4, Keys: lists(1, "over"), Vals: lists(1, "over"), Kids: []*tree.Node{n, nil}}
				same(t, "Hash over "+what, tree.Hash(over), hashOf(over))
			}
		}
	}
	same(t, "Hash of a zero node", tree.Hash(&tree.Node{}), sum(nil))
}

// P704: of nodes that no tree has: of any level, with keys that are none, do not rise, are the same, and values that are too large.
func TestP704HashOfAnyNode(t *testing.T) {
	for _, level := range []int{math.MinInt, -300, -1, 0, 1, 63, 64, 65, 127, 128, math.MaxInt} {
		nodes := []*tree.Node{
			{Level: level, Kids: []*tree.Node{nil}},
			{Level: level, Kids: []*tree.Node{{Level: level}}},
			{Level: level, Keys: [][]byte{nil}, Vals: [][]byte{nil}, Kids: make([]*tree.Node, 2)},
			{Level: level, Keys: [][]byte{{}, long(400)}, Vals: [][]byte{long(5000), {}}, Kids: make([]*tree.Node, 3)},
			{Level: level, Keys: [][]byte{{9}, {9}, {1}}, Vals: [][]byte{{1}, {2}, {3}}, Kids: make([]*tree.Node, 4)},
		}
		for i, n := range nodes {
			same(t, fmt.Sprintf("Hash of node %d of level %d", i, level), tree.Hash(n), hashOf(n))
			over := &tree.Node{Level: -level, Keys: lists(2, "over"), Vals: lists(2, "over"), Kids: []*tree.Node{n, nodes[0], n}}
			same(t, "Hash over it", tree.Hash(over), hashOf(over))
		}
	}
}

// chain: nodes beneath one another, each wide times the kid of the next.
func chain(depth, wide int) (top *tree.Node, hash []byte) {
	hash = sum([]byte("empty"))
	for i := range depth {
		top = &tree.Node{Level: i, Keys: lists(wide-1, "key"), Vals: lists(wide-1, "value"), Kids: slices.Repeat([]*tree.Node{top}, wide)}
		var sums [][]byte
		for _, value := range top.Vals {
			sums = append(sums, sum(value))
		}
		hash = sum(formOf(i, top.Keys, sums, slices.Repeat([][]byte{hash}, wide)))
	}
	return top, hash
}

// P704: as deep as the document's bound lets parts nest; and of few nodes that stand in very many places.
func TestP704HashEnds(t *testing.T) {
	for _, c := range [][2]int{{1 << 16, 1}, {1 << 10, 2}, {64, 3}, {3, 5}} {
		top, hash := chain(c[0], c[1])
		same(t, fmt.Sprint("Hash of a chain ", c), tree.Hash(top), hash)
	}
	round := &tree.Node{Keys: lists(1, "key"), Vals: lists(1, "value"), Kids: make([]*tree.Node, 2)}
	round.Kids[1] = &tree.Node{Kids: []*tree.Node{round}}
	is(t, "bytes of a hash", len(tree.Hash(round)), 32)
}

func TestP704HashChangesNothing(t *testing.T) {
	kid := &tree.Node{Level: 1, Keys: lists(1, "kid"), Vals: lists(1, "kid's"), Kids: make([]*tree.Node, 2)}
	n := &tree.Node{
		Level: 2,
		Keys:  append(make([][]byte, 0, 5), roomy([]byte("a")), roomy([]byte("b"))),
		Vals:  append(make([][]byte, 0, 5), roomy([]byte("1")), roomy([]byte("2"))),
		Kids:  append(make([]*tree.Node, 0, 5), nil, kid, kid),
	}
	var before [][]byte
	for i := range n.Keys {
		before = append(before, whole(n.Keys[i]), whole(n.Vals[i]))
	}
	tree.Hash(n)
	for i := range n.Keys {
		same(t, "key", whole(n.Keys[i]), before[2*i])
		same(t, "value", whole(n.Vals[i]), before[2*i+1])
	}
	is(t, "Level", n.Level, 2)
	is(t, "kids", slices.Equal(n.Kids[:5], []*tree.Node{nil, kid, kid, nil, nil}), true)
	for i := 2; i < 5; i++ {
		is(t, "room", n.Keys[:5][i] == nil && n.Vals[:5][i] == nil, true)
	}
	is(t, "kid's key", string(kid.Keys[0]), "kid 0")
}

// P704: forms written out.
func TestP704FormWrittenOut(t *testing.T) {
	b := func(words ...string) [][]byte {
		var out [][]byte
		for _, word := range words {
			out = append(out, []byte(word))
		}
		return out
	}
	cases := []struct {
		level            int
		keys, sums, kids [][]byte
		form             string
	}{
		{0, nil, nil, nil, "\x04node\x00\x00\x00"},
		{0, b(), b(), b("h"), "\x04node\x00\x00\x01h"},
		{0, nil, b("s"), b("h", "i"), "\x04node\x00\x00\x01h"},
		{5, b("ab"), b("s"), b("h", "i"), "\x04node\x05\x01\x01h\x02ab\x01s\x01i"},
		{5, b("ab"), b("s"), b("h"), "\x04node\x05\x01\x01h\x02ab\x01s\x00"},
		{5, b("ab"), b("s"), nil, "\x04node\x05\x01\x00\x02ab\x01s\x00"},
		{5, b("ab"), nil, b("h", "i"), "\x04node\x05\x01\x01h\x02ab\x00\x01i"},
		{5, b("ab"), b("s", "more"), b("h", "i", "more"), "\x04node\x05\x01\x01h\x02ab\x01s\x01i"},
		{300, b("a", "b"), b("s", "t"), b("h", "i", "j"), "\x04node\xac\x02\x02\x01h\x01a\x01s\x01i\x01b\x01t\x01j"},
		{1, b("", ""), b("", ""), b("", "", ""), "\x04node\x01\x02\x00\x00\x00\x00\x00\x00\x00"},
		{-1, nil, nil, nil, "\x04node\xff\xff\xff\xff\xff\xff\xff\xff\xff\x01\x00\x00"},
		{math.MinInt, nil, nil, nil, "\x04node\x80\x80\x80\x80\x80\x80\x80\x80\x80\x01\x00\x00"},
		{math.MaxInt, nil, nil, nil, "\x04node\xff\xff\xff\xff\xff\xff\xff\xff\x7f\x00\x00"},
	}
	for i, c := range cases {
		same(t, fmt.Sprint("Form ", i), tree.Form(c.level, c.keys, c.sums, c.kids), []byte(c.form))
	}
}

// P704: of any counts: the missing ones as empty ones, the others for nothing.
func TestP704FormOfAnyCounts(t *testing.T) {
	full := func(l [][]byte, count int) [][]byte {
		return append(slices.Clone(l), make([][]byte, 9)...)[:count]
	}
	for keys := range 4 {
		for sums := range 6 {
			for kids := range 6 {
				k, s, h := lists(keys, "key"), lists(sums, "sum"), lists(kids, "hash")
				what := fmt.Sprintf("Form of %d keys, %d sums, %d kids", keys, sums, kids)
				same(t, what, tree.Form(7, k, s, h), formOf(7, k, full(s, keys), full(h, keys+1)))
			}
		}
	}
}

func TestP704FormOfMany(t *testing.T) {
	keys, sums, kids := lists(70000, "key"), lists(70000, "sum"), lists(70001, "hash")
	form := tree.Form(0, keys, sums, kids)
	same(t, "first bytes", form[:10], []byte("\x04node\x00\xf0\xa2\x04\x06"))
	want := slices.Concat(text(keys[69999]), text(sums[69999]), text(kids[70000]))
	same(t, "last bytes", form[len(form)-len(want):], want)
}

func TestP704FormChangesNothing(t *testing.T) {
	var all [3][][]byte
	var before [][]byte
	for i := range all {
		all[i] = append(make([][]byte, 0, 9), roomy([]byte("a")), roomy([]byte("b")))
		before = append(before, whole(all[i][0]), whole(all[i][1]))
	}
	form := tree.Form(1, all[0], all[1], all[2])
	want := bytes.Clone(form)
	for i, l := range all {
		same(t, "first", whole(l[0]), before[2*i])
		same(t, "second", whole(l[1]), before[2*i+1])
		for _, x := range l[2:9] {
			is(t, "room", x == nil, true)
		}
		spoil(l[0])
		spoil(l[1])
	}
	same(t, "form", form, want)
}

// P704: Root is the Hash of Top.
func TestP704RootIsTheTopsHash(t *testing.T) {
	var x *tree.Tree
	for i, key := range mixed() {
		x = put(t, x, key, long(i*40))
		same(t, "Root", x.Root(), tree.Hash(x.Top()))
	}
	one, _ := tree.Make([]api.Item{{Key: long(256), Value: long(1024)}})
	same(t, "Root", one.Root(), tree.Hash(one.Top()))
}
