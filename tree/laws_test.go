package tree_test

import (
	"bytes"
	"fmt"
	"math/rand"
	"slices"
	"testing"

	"bulwark/api"
	"bulwark/tree"
)

// orders: all of them.
func orders(keys [][]byte) [][][]byte {
	if len(keys) == 0 {
		return [][][]byte{nil}
	}
	var out [][][]byte
	for i, key := range keys {
		rest := slices.Delete(slices.Clone(keys), i, i+1)
		for _, order := range orders(rest) {
			out = append(out, append([][]byte{key}, order...))
		}
	}
	return out
}

// P705: every order in which a few items of several levels can come and go.
func TestP705EveryOrder(t *testing.T) {
	keys := slices.Concat(keysAt(0, 3), keysAt(1, 2), keysAt(2, 1))
	s := storeOf(keys)
	for _, order := range orders(keys) {
		var x *tree.Tree
		for _, key := range order {
			x = put(t, x, key, []byte(s[string(key)]))
		}
		holds(t, fmt.Sprintf("put as %q", order), x, s)
		left := s
		for _, key := range order[:4] {
			x, left = del(t, x, key), left.without(key)
		}
		holds(t, fmt.Sprintf("deleted as %q", order[:4]), x, left)
	}
}

// P705: with others put and deleted in between, and values that were others first.
func TestP705OthersInBetween(t *testing.T) {
	keys, others := mixed(), slices.Concat(keysAt(0, 20)[9:], keysAt(1, 9)[6:], keysAt(2, 7)[4:], keysAt(3, 3)[2:])
	s := storeOf(keys)
	want := made(t, s.items())
	r := rand.New(rand.NewSource(705))
	for range 60 {
		r.Shuffle(len(keys), func(i, j int) { keys[i], keys[j] = keys[j], keys[i] })
		r.Shuffle(len(others), func(i, j int) { others[i], others[j] = others[j], others[i] })
		var x *tree.Tree
		for i, key := range keys {
			x = put(t, x, key, []byte("first"))
			x = put(t, x, others[i%len(others)], []byte("other"))
		}
		for _, key := range keys {
			x = put(t, x, key, []byte(s[string(key)]))
		}
		for _, key := range others {
			x, _ = x.Del(key)
		}
		holds(t, "in the end", x, s)
		same(t, "Root", x.Root(), want.Root())
	}
}

// follow: a script of a key and what is done to it, two bytes a step, against the words.
func follow(t *testing.T, keys [][]byte, script []byte) {
	t.Helper()
	var x *tree.Tree
	s := store{}
	for i := 0; i+1 < len(script); i += 2 {
		key, what := keys[int(script[i])%len(keys)], script[i+1]
		before, old := x, s
		if what%3 == 0 {
			var was bool
			x, was = x.Del(key)
			_, has := s[string(key)]
			is(t, "was", was, has)
			s = s.without(key)
		} else {
			value := bytes.Repeat([]byte{what}, int(what%5))
			x, s = put(t, x, key, value), s.with(key, value)
		}
		holds(t, "step", x, s)
		holds(t, "before", before, old)
		if t.Failed() {
			t.Fatalf("step %d of %v", i/2, script)
		}
	}
}

func TestP705Scripts(t *testing.T) {
	r := rand.New(rand.NewSource(7))
	for range 12 {
		script := make([]byte, 300)
		r.Read(script)
		follow(t, mixed(), script)
	}
}

func FuzzP705Scripts(f *testing.F) {
	f.Add([]byte{0, 1, 9, 1, 15, 1, 19, 1, 15, 0, 19, 0, 9, 0, 0, 0})
	f.Add([]byte("scripts may be of any bytes at all"))
	f.Fuzz(func(t *testing.T, script []byte) {
		follow(t, mixed(), script[:min(len(script), 200)])
	})
}

// P705: of many items, each way to come by a tree leads to one root.
func TestP705ManyItems(t *testing.T) {
	var l []api.Item
	for i := range 3000 {
		l = append(l, api.Item{Key: fmt.Appendf(nil, "key %d", i*i), Value: fmt.Append(nil, i)})
	}
	root := made(t, l).Root()
	var rising, falling *tree.Tree
	for i := range l {
		rising = put(t, rising, l[i].Key, l[i].Value)
		falling = put(t, falling, l[len(l)-1-i].Key, l[len(l)-1-i].Value)
	}
	same(t, "rising", rising.Root(), root)
	same(t, "falling", falling.Root(), root)
	half := made(t, l[:1500])
	for _, x := range l[1500:] {
		rising = del(t, rising, x.Key)
	}
	same(t, "half", rising.Root(), half.Root())
	slices.SortFunc(l, func(a, b api.Item) int { return bytes.Compare(a.Key, b.Key) })
	sameNode(t, "Top", falling.Top(), nodeOf(l))
}

// topForm: of a tree's top, by Form.
func topForm(x *tree.Tree) []byte {
	n := x.Top()
	if n == nil {
		return nil
	}
	var sums, kids [][]byte
	for _, value := range n.Vals {
		sums = append(sums, sum(value))
	}
	for _, kid := range n.Kids {
		kids = append(kids, tree.Hash(kid))
	}
	return tree.Form(n.Level, n.Keys, sums, kids)
}

// P705: each key of six absent, with one value or with another: all are trees of their own form and root.
func TestP705AnotherTreeHasAnotherForm(t *testing.T) {
	keys := slices.Concat(keysAt(0, 3), keysAt(1, 2), keysAt(2, 1))
	seen := map[string]int{}
	roots := map[string]int{}
	const all = 3 * 3 * 3 * 3 * 3 * 3
	for n := range all {
		var x *tree.Tree
		for rest, i := n, 0; i < len(keys); rest, i = rest/3, i+1 {
			if rest%3 > 0 {
				x = put(t, x, keys[i], long(rest%3-1))
			}
		}
		seen[string(topForm(x))] = n
		roots[string(x.Root())] = n
		if form := topForm(x); form != nil {
			same(t, "Root", x.Root(), sum(form))
		}
	}
	is(t, "forms", len(seen), all)
	is(t, "roots", len(roots), all)
}

// P705: what stands in one place of a form is not to be taken for what stands in another.
func TestP705AnotherNodeHasAnotherForm(t *testing.T) {
	words := [][]byte{nil, {0}, {1, 0}, []byte("node"), []byte("\x04node\x00\x00\x00"), long(130)}
	seen := map[string]string{}
	count := 0
	note := func(level int, keys, sums, kids [][]byte) {
		seen[string(tree.Form(level, keys, sums, kids))] = ""
		count++
	}
	for _, level := range []int{0, 1, 2, 127, 128, 300, -1} {
		for _, a := range words {
			note(level, nil, nil, [][]byte{a})
			for _, b := range words {
				for _, c := range words {
					for _, d := range words {
						note(level, [][]byte{a}, [][]byte{b}, [][]byte{c, d})
					}
					note(level, [][]byte{a, b}, [][]byte{c, a}, [][]byte{b, c, a})
				}
			}
		}
	}
	is(t, "forms", len(seen), count)
}
