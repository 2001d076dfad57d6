package chunk_test

import (
	"bytes"
	"fmt"
	"math"
	"slices"
	"testing"

	"bulwark/api"
	"bulwark/chunk"
	"bulwark/tree"
)

// emptyTrees: nil, one that nothing was put into, one that all was taken from.
func emptyTrees(t *testing.T) map[string]*tree.Tree {
	key := []byte("k")
	one, _ := (*tree.Tree)(nil).Put(key, nil)
	none, _ := one.Del(key)
	return map[string]*tree.Tree{"nil": nil, "of no item": made(t, nil), "zero": {}, "taken from": none}
}

// P901: the chapter's example, written out.
func TestP901Example(t *testing.T) {
	x := made(t, []api.Item{item("a", "1"), item("bc", ""), item("d", "345")})
	sameChunks(t, "per 2", cut(t, x, 2), [][]byte{[]byte("\x02\x01a\x011\x02bc\x00"), []byte("\x01\x01d\x03345")})
	sameChunks(t, "per 1", cut(t, x, 1), [][]byte{[]byte("\x01\x01a\x011"), []byte("\x01\x02bc\x00"), []byte("\x01\x01d\x03345")})
	sameChunks(t, "per 3", cut(t, x, 3), [][]byte{[]byte("\x03\x01a\x011\x02bc\x00\x01d\x03345")})
}

func TestP901BadArg(t *testing.T) {
	trees := emptyTrees(t)
	trees["of one item"] = made(t, some(1))
	trees["of many"] = made(t, some(100))
	for name, x := range trees {
		for _, per := range []int{math.MinInt, math.MinInt + 1, -64, -1, 0, 65, 66, 100, 128, 256 + 1, 1 << 32, 1<<32 + 1, math.MaxInt} {
			chunks, kind := chunk.Cut(x, per)
			what := fmt.Sprint(name, ", per ", per)
			is(t, what, kind, api.BadArg)
			is(t, what+": chunks", len(chunks), 0)
		}
	}
}

func TestP901EmptyTree(t *testing.T) {
	for name, x := range emptyTrees(t) {
		for per := 1; per <= 64; per++ {
			is(t, fmt.Sprint(name, ", per ", per), len(cut(t, x, per)), 0)
		}
	}
}

// P901: as many as the tree has items, one fewer and one more are among these.
func TestP901EveryPer(t *testing.T) {
	for _, count := range counts() {
		items := some(count)
		x := made(t, items)
		for per := 1; per <= 64; per++ {
			chunks := cut(t, x, per)
			what := fmt.Sprint(count, " items, per ", per)
			is(t, what+": how many", len(chunks), (count+per-1)/per)
			sameChunks(t, what, chunks, formsOf(items, per))
		}
	}
}

// P901: the greatest and the least keys, and the sizes at their limits, are all there.
func TestP901Edges(t *testing.T) {
	items := edges()
	x := made(t, items)
	for per := 1; per <= 64; per++ {
		sameChunks(t, fmt.Sprint("per ", per), cut(t, x, per), formsOf(items, per))
	}
	for _, i := range items {
		sameChunks(t, fmt.Sprintf("%q alone", i.Key), cut(t, made(t, []api.Item{i}), 1), [][]byte{formOf([]api.Item{i})})
	}
}

// P901: the largest chunk that there is.
func TestP901Largest(t *testing.T) {
	var items []api.Item
	for i := range 65 {
		items = append(items, api.Item{Key: append(long(255), byte(i)), Value: bytes.Repeat([]byte{byte(i)}, 1024)})
	}
	sameChunks(t, "per 64", cut(t, made(t, items), 64), [][]byte{formOf(items[:64]), formOf(items[64:])})
}

func TestP901ManyItems(t *testing.T) {
	items := some(10000)
	x := made(t, items)
	for _, per := range []int{1, 7, 63, 64} {
		sameChunks(t, fmt.Sprint("per ", per), cut(t, x, per), formsOf(items, per))
	}
}

// P901: of a tree that came about by puts and takings, too.
func TestP901AnyWay(t *testing.T) {
	var x *tree.Tree
	items := some(70)
	for _, i := range slices.Backward(items) {
		x, _ = x.Put(i.Key, []byte("another"))
		x, _ = x.Put(i.Key, i.Value)
		x, _ = x.Put(append(bytes.Clone(i.Key), 'x'), nil)
	}
	for _, i := range items {
		x, _ = x.Del(append(bytes.Clone(i.Key), 'x'))
	}
	sameChunks(t, "per 9", cut(t, x, 9), formsOf(items, 9))
}

func TestP901ChangesNothing(t *testing.T) {
	for _, items := range [][]api.Item{some(1), some(20), some(130), edges()} {
		x := made(t, items)
		for _, per := range []int{1, 3, 64} {
			first, second := cut(t, x, per), cut(t, x, per)
			holds(t, "the tree", x, items)
			spoilChunks(first)
			holds(t, "the tree behind it", x, items)
			sameChunks(t, "cut ahead of it", second, formsOf(items, per))
			sameChunks(t, "cut behind it", cut(t, x, per), formsOf(items, per))
		}
	}
}

// P901: no chunk stands in another one's room.
func TestP901ChunksShareNothing(t *testing.T) {
	items := some(30)
	chunks := cut(t, made(t, items), 4)
	want := formsOf(items, 4)
	for i := range chunks {
		spoil(chunks[i])
		sameChunks(t, "those behind", chunks[i+1:], want[i+1:])
	}
	chunks = cut(t, made(t, items), 4)
	for i := range slices.Backward(chunks) {
		spoil(chunks[i])
		sameChunks(t, "those ahead", chunks[:i], want[:i])
	}
}
