package chunk_test

import (
	"bytes"
	"encoding/binary"
	"fmt"
	"math/rand"
	"slices"
	"testing"

	"bulwark/api"
	"bulwark/chunk"
	"bulwark/tree"
)

func is[T comparable](t *testing.T, what string, got, want T) {
	t.Helper()
	if got != want {
		t.Errorf("%s: %#v, not %#v", what, got, want)
	}
}

func same(t *testing.T, what string, got, want []byte) {
	t.Helper()
	if !bytes.Equal(got, want) {
		t.Errorf("%s: %v, not %v", what, got, want)
	}
}

func sameItems(t *testing.T, what string, got, want []api.Item) {
	t.Helper()
	equal := func(a, b api.Item) bool { return bytes.Equal(a.Key, b.Key) && bytes.Equal(a.Value, b.Value) }
	if !slices.EqualFunc(got, want, equal) {
		t.Errorf("%s: %q, not %q", what, got, want)
	}
}

func sameChunks(t *testing.T, what string, got, want [][]byte) {
	t.Helper()
	if !slices.EqualFunc(got, want, bytes.Equal) {
		t.Errorf("%s: %q, not %q", what, got, want)
	}
}

// roomy: the list, with room behind it that must stay as it is.
func roomy[T any](l []T, room ...T) []T {
	return append(slices.Clone(l), room...)[:len(l)]
}

// roomyChunks: with room behind every list, and nothing shared.
func roomyChunks(chunks [][]byte) [][]byte {
	var out [][]byte
	for _, b := range chunks {
		out = append(out, roomy(b, 7, 7, 7))
	}
	return roomy(out, []byte("room"), []byte("room"))
}

// dump: all of it, its spare room too.
func dump(chunks [][]byte) string {
	out := fmt.Sprint(len(chunks))
	for _, b := range chunks[:cap(chunks)] {
		out += fmt.Sprintf(" %d:%q", len(b), b[:cap(b)])
	}
	return out
}

// The three spoil all that others could see, the spare room too.
func spoil(b []byte) {
	b = b[:cap(b)]
	for i := range b {
		b[i] = 99
	}
}

func spoilChunks(chunks [][]byte) {
	for _, b := range chunks[:cap(chunks)] {
		spoil(b)
	}
	clear(chunks[:cap(chunks)])
}

func spoilItems(items []api.Item) {
	for _, x := range items[:cap(items)] {
		spoil(x.Key)
		spoil(x.Value)
	}
	clear(items[:cap(items)])
}

// number, text: of layer 1, by the library's means alone.
func number(n int) []byte {
	return binary.AppendUvarint(nil, uint64(n))
}

func text(x []byte) []byte {
	return append(number(len(x)), x...)
}

// pair: an item's form.
func pair(key, value string) []byte {
	return append(text([]byte(key)), text([]byte(value))...)
}

// formOf, formsOf: as the chapter's words say.
func formOf(items []api.Item) []byte {
	form := number(len(items))
	for _, x := range items {
		form = slices.Concat(form, text(x.Key), text(x.Value))
	}
	return form
}

func formsOf(rising []api.Item, per int) [][]byte {
	var out [][]byte
	for len(rising) > 0 {
		count := min(per, len(rising))
		out = append(out, formOf(rising[:count]))
		rising = rising[count:]
	}
	return out
}

func long(size int) []byte {
	return bytes.Repeat([]byte{'n'}, size)
}

func item(key, value string) api.Item {
	return api.Item{Key: []byte(key), Value: []byte(value)}
}

// some: items of rising keys, some of which are the beginning of the next one.
func some(count int) []api.Item {
	var out []api.Item
	for i := range count {
		key := fmt.Sprintf("k%04d", i/2)
		if i%2 == 1 {
			key += "\x00"
		}
		out = append(out, item(key, fmt.Sprintf("value %d", i)))
	}
	return out
}

// edges: rising keys at the limits of their sizes and of their order, with values at the limits of theirs.
func edges() []api.Item {
	keys := [][]byte{{0}, {0, 0}, {0, 255}, {1}, {127}, {128}, bytes.Repeat([]byte{128}, 256), {255}, bytes.Repeat([]byte{255}, 255), bytes.Repeat([]byte{255}, 256)}
	var out []api.Item
	for i, key := range keys {
		out = append(out, api.Item{Key: key, Value: long([]int{0, 1024, 1, 127, 128, 1023}[i%6])})
	}
	return out
}

// counts: of items, at the edges of chunks.
func counts() []int {
	return []int{0, 1, 2, 3, 5, 31, 32, 33, 63, 64, 65, 127, 128, 129, 200}
}

// made puts the items in an order that is none of theirs.
func made(t testing.TB, items []api.Item) *tree.Tree {
	t.Helper()
	mixed := slices.Clone(items)
	rand.New(rand.NewSource(int64(len(items)))).Shuffle(len(mixed), func(i, j int) { mixed[i], mixed[j] = mixed[j], mixed[i] })
	x, kind := tree.Make(mixed)
	if kind != api.OK {
		t.Fatalf("Make: %d", kind)
	}
	return x
}

// holds: is x just the tree of these items, which rise?
func holds(t *testing.T, what string, x *tree.Tree, items []api.Item) {
	t.Helper()
	is(t, what+": Len", x.Len(), len(items))
	list, more := x.Items(nil, bytes.Repeat([]byte{255}, 257), len(items)+1)
	sameItems(t, what+": Items", list, items)
	is(t, what+": more", more, false)
	same(t, what+": Root", x.Root(), made(t, items).Root())
}

func cut(t *testing.T, x *tree.Tree, per int) [][]byte {
	t.Helper()
	chunks, kind := chunk.Cut(x, per)
	is(t, fmt.Sprint("Cut, ", per), kind, api.OK)
	return chunks
}

// The two that follow: laid, and checked, as the tree of these items.
func laid(t *testing.T, what string, chunks [][]byte, items []api.Item) {
	t.Helper()
	x, kind := chunk.Lay(chunks)
	is(t, what+": Lay", kind, api.OK)
	holds(t, what+": Lay", x, items)
	checked(t, what, made(t, items).Root(), chunks, items)
}

func checked(t *testing.T, what string, root []byte, chunks [][]byte, items []api.Item) {
	t.Helper()
	x, kind := chunk.Check(root, chunks)
	is(t, what+": Check", kind, api.OK)
	holds(t, what+": Check", x, items)
}

// The three that follow: that kind, and nothing beside it.
func notRead(t *testing.T, what string, b []byte, want api.Kind) {
	t.Helper()
	items, kind := chunk.Read(b)
	is(t, what+": Read", kind, want)
	is(t, what+": items", len(items), 0)
}

func notLaid(t *testing.T, what string, chunks [][]byte, want api.Kind) {
	t.Helper()
	x, kind := chunk.Lay(chunks)
	is(t, what+": Lay", kind, want)
	is(t, what+": a tree", x, nil)
	for _, root := range [][]byte{nil, long(32), (*tree.Tree)(nil).Root()} {
		notChecked(t, what, root, chunks, want)
	}
}

func notChecked(t *testing.T, what string, root []byte, chunks [][]byte, want api.Kind) {
	t.Helper()
	x, kind := chunk.Check(root, chunks)
	is(t, what+": Check", kind, want)
	is(t, what+": a tree", x, nil)
}
