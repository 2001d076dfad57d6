package tree_test

import (
	"bytes"
	"crypto/sha256"
	"encoding/binary"
	"encoding/hex"
	"fmt"
	"maps"
	"slices"
	"strings"
	"testing"

	"bulwark/api"
	"bulwark/tree"
)

func is[T comparable](t *testing.T, what string, got, want T) {
	t.Helper()
	if got != want {
		t.Errorf("%s: %#v, not %#v", what, got, want)
	}
}

func same(t *testing.T, what string, got, want []byte) {
	t.Helper()
	if !bytes.Equal(got, want) {
		t.Errorf("%s: %v, not %v", what, got, want)
	}
}

func long(size int) []byte {
	return bytes.Repeat([]byte{'n'}, size)
}

// beyond: above every key.
func beyond() []byte {
	return bytes.Repeat([]byte{255}, 257)
}

// roomy: these bytes, with room behind them that must stay as it is.
func roomy(b []byte) []byte {
	whole := append(bytes.Clone(b), bytes.Repeat([]byte{77}, 64)...)
	return whole[:len(b)]
}

// whole: the bytes with the room behind them.
func whole(b []byte) []byte {
	return bytes.Clone(b[:cap(b)])
}

// spoil: all of it, its spare room too.
func spoil(b []byte) {
	b = b[:cap(b)]
	for i := range b {
		b[i] = 99
	}
}

// number, text, sum: of layers 1 and 2, by the library's means alone.
func number(n uint64) []byte {
	return binary.AppendUvarint(nil, n)
}

func text(x []byte) []byte {
	return append(number(uint64(len(x))), x...)
}

func sum(b []byte) []byte {
	s := sha256.Sum256(b)
	return s[:]
}

// levelOf, nodeOf, formOf, hashOf: as the chapter's words say.
func levelOf(key []byte) int {
	digits := hex.EncodeToString(sum(slices.Concat(text([]byte("level")), number(1), text(key))))
	level := 0
	for strings.HasPrefix(digits[level:], "0") {
		level++
	}
	return level
}

func nodeOf(rising []api.Item) *tree.Node {
	if len(rising) == 0 {
		return nil
	}
	n := &tree.Node{}
	for _, x := range rising {
		n.Level = max(n.Level, levelOf(x.Key))
	}
	var kid []api.Item
	for _, x := range rising {
		if levelOf(x.Key) < n.Level {
			kid = append(kid, x)
			continue
		}
		n.Kids = append(n.Kids, nodeOf(kid))
		n.Keys = append(n.Keys, x.Key)
		n.Vals = append(n.Vals, x.Value)
		kid = nil
	}
	n.Kids = append(n.Kids, nodeOf(kid))
	return n
}

// formOf: of lists that are as many as they must be.
func formOf(level int, keys, sums, kids [][]byte) []byte {
	form := slices.Concat(text([]byte("node")), number(uint64(level)), number(uint64(len(keys))), text(kids[0]))
	for i := range keys {
		form = slices.Concat(form, text(keys[i]), text(sums[i]), text(kids[i+1]))
	}
	return form
}

func hashOf(n *tree.Node) []byte {
	if n == nil {
		return sum([]byte("empty"))
	}
	if len(n.Vals) != len(n.Keys) || len(n.Kids) != len(n.Keys)+1 {
		return sum(nil)
	}
	var sums, kids [][]byte
	for _, value := range n.Vals {
		sums = append(sums, sum(value))
	}
	for _, kid := range n.Kids {
		kids = append(kids, hashOf(kid))
	}
	return sum(formOf(n.Level, n.Keys, sums, kids))
}

// keysAt: of just that level, the first ones of k0, k1, k2 and so on.
func keysAt(level, count int) [][]byte {
	var out [][]byte
	for i := 0; len(out) < count; i++ {
		if key := fmt.Appendf(nil, "k%d", i); levelOf(key) == level {
			out = append(out, key)
		}
	}
	return out
}

// mixed: keys of several levels, so that nodes have kids, and some kids are nil.
func mixed() [][]byte {
	return slices.Concat(keysAt(0, 9), keysAt(1, 6), keysAt(2, 4), keysAt(3, 2))
}

// store: what a tree must have, by keys.
type store map[string]string

func storeOf(keys [][]byte) store {
	s := store{}
	for i, key := range keys {
		s[string(key)] = fmt.Sprintf("value %d", i)
	}
	return s
}

func (s store) items() []api.Item {
	var out []api.Item
	for _, key := range slices.Sorted(maps.Keys(s)) {
		out = append(out, api.Item{Key: []byte(key), Value: []byte(s[key])})
	}
	return out
}

func (s store) with(key, value []byte) store {
	s = maps.Clone(s)
	s[string(key)] = string(value)
	return s
}

func (s store) without(key []byte) store {
	s = maps.Clone(s)
	delete(s, string(key))
	return s
}

// between: what Items must tell, were there no most.
func (s store) between(lo, hi []byte) []api.Item {
	return slices.DeleteFunc(s.items(), func(x api.Item) bool {
		return bytes.Compare(x.Key, lo) < 0 || bytes.Compare(x.Key, hi) >= 0
	})
}

// The three make trees of what must be right.
func made(t *testing.T, l []api.Item) *tree.Tree {
	t.Helper()
	x, wrong := tree.Make(l)
	if wrong != api.OK {
		t.Fatalf("Make: %d", wrong)
	}
	return x
}

func put(t *testing.T, x *tree.Tree, key, value []byte) *tree.Tree {
	t.Helper()
	y, wrong := x.Put(key, value)
	if wrong != api.OK {
		t.Fatalf("Put of %q: %d", key, wrong)
	}
	return y
}

func del(t *testing.T, x *tree.Tree, key []byte) *tree.Tree {
	t.Helper()
	y, was := x.Del(key)
	if !was {
		t.Errorf("Del of %q: it was not there", key)
	}
	return y
}

func sameItems(t *testing.T, what string, got, want []api.Item) {
	t.Helper()
	alike := func(a, b api.Item) bool { return bytes.Equal(a.Key, b.Key) && bytes.Equal(a.Value, b.Value) }
	if !slices.EqualFunc(got, want, alike) {
		t.Errorf("%s: %q, not %q", what, got, want)
	}
}

func sameNode(t *testing.T, what string, got, want *tree.Node) {
	t.Helper()
	if got == nil || want == nil {
		is(t, what+": a node", got != nil, want != nil)
		return
	}
	is(t, what+": Level", got.Level, want.Level)
	if !slices.EqualFunc(got.Keys, want.Keys, bytes.Equal) || !slices.EqualFunc(got.Vals, want.Vals, bytes.Equal) {
		t.Errorf("%s: %q with %q, not %q with %q", what, got.Keys, got.Vals, want.Keys, want.Vals)
	}
	if len(got.Kids) != len(want.Kids) {
		t.Fatalf("%s: %d kids, not %d", what, len(got.Kids), len(want.Kids))
	}
	for i := range want.Kids {
		sameNode(t, fmt.Sprintf("%s, kid %d", what, i), got.Kids[i], want.Kids[i])
	}
}

// holds: is x just the tree of these, in all that can be asked?
func holds(t *testing.T, what string, x *tree.Tree, s store) {
	t.Helper()
	is(t, what+": Len", x.Len(), len(s))
	want := s.items()
	list, more := x.Items(nil, beyond(), len(want))
	sameItems(t, what+": Items", list, want)
	is(t, what+": more", more, false)
	for _, item := range want {
		value, has := x.Get(item.Key)
		same(t, what+": Get", value, item.Value)
		is(t, what+": has", has, true)
	}
	shape := nodeOf(want)
	sameNode(t, what+": Top", x.Top(), shape)
	same(t, what+": Root", x.Root(), hashOf(shape))
}
