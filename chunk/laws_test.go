package chunk_test

import (
	"bytes"
	"fmt"
	"maps"
	"math/rand"
	"slices"
	"testing"

	"bulwark/api"
	"bulwark/chunk"
	"bulwark/tree"
)

// P904: with any per.
func TestP904EveryPer(t *testing.T) {
	for _, count := range counts() {
		items := some(count)
		x := made(t, items)
		for per := 1; per <= 64; per++ {
			chunks := cut(t, x, per)
			y, kind := chunk.Check(x.Root(), chunks)
			what := fmt.Sprint(count, " items, per ", per)
			is(t, what, kind, api.OK)
			holds(t, what, y, items)
			sameChunks(t, what+", cut again", cut(t, y, per), chunks)
		}
	}
}

func TestP904Edges(t *testing.T) {
	x := made(t, edges())
	for per := 1; per <= 64; per++ {
		laid(t, fmt.Sprint("per ", per), cut(t, x, per), edges())
	}
}

func TestP904EmptyTree(t *testing.T) {
	for name, x := range emptyTrees(t) {
		for per := 1; per <= 64; per++ {
			laid(t, name, cut(t, x, per), nil)
			checked(t, name, x.Root(), cut(t, x, per), nil)
		}
	}
}

func TestP904ManyItems(t *testing.T) {
	items := some(5000)
	x := made(t, items)
	for _, per := range []int{1, 13, 64} {
		laid(t, fmt.Sprint("per ", per), cut(t, x, per), items)
	}
}

// P904: each chunk is read as the items that stand there.
func TestP904EachChunkRead(t *testing.T) {
	items := some(150)
	for per := 1; per <= 64; per++ {
		rest := items
		for _, b := range cut(t, made(t, items), per) {
			list, kind := chunk.Read(b)
			is(t, "Read", kind, api.OK)
			count := min(per, len(rest))
			sameItems(t, fmt.Sprint("per ", per), list, rest[:count])
			rest = rest[count:]
		}
		is(t, "left", len(rest), 0)
	}
}

// P904: of two cuts the first chunks of one and the last ones of the other, wherever they meet.
func TestP904TwoCuts(t *testing.T) {
	items := some(24)
	x := made(t, items)
	for one := 1; one <= 12; one++ {
		for two := 1; two <= 12; two++ {
			a, b := cut(t, x, one), cut(t, x, two)
			for i := range a {
				at := i * one
				if at%two == 0 {
					laid(t, fmt.Sprintf("per %d, from %d on per %d", one, at, two), slices.Concat(a[:i], b[at/two:]), items)
				}
			}
		}
	}
}

// P904: chunks of cuts of trees whose items stand behind one another's.
func TestP904SeveralCuts(t *testing.T) {
	r := rand.New(rand.NewSource(9))
	for range 300 {
		items := some(r.Intn(200))
		var chunks [][]byte
		for rest := items; len(rest) > 0; {
			count := 1 + r.Intn(len(rest))
			chunks = append(chunks, cut(t, made(t, rest[:count]), 1+r.Intn(64))...)
			rest = rest[count:]
		}
		laid(t, fmt.Sprint(len(items), " items"), chunks, items)
	}
}

// P904: trees of random keys and values, along puts and takings.
func TestP904Scripts(t *testing.T) {
	r := rand.New(rand.NewSource(904))
	word := func(least, most int) []byte {
		b := make([]byte, least+r.Intn(most-least+1))
		for i := range b {
			b[i] = []byte{0, 1, 127, 128, 255}[r.Intn(5)]
		}
		return b
	}
	for range 20 {
		var x *tree.Tree
		store := map[string]string{}
		for step := range 80 {
			key, value := word(1, 3), word(0, 200)
			if step%3 == 2 {
				x, _ = x.Del(key)
				delete(store, string(key))
			} else {
				x, _ = x.Put(key, value)
				store[string(key)] = string(value)
			}
			if step%8 != 7 {
				continue
			}
			var items []api.Item
			for _, key := range slices.Sorted(maps.Keys(store)) {
				items = append(items, item(key, store[key]))
			}
			per := 1 + r.Intn(64)
			chunks := cut(t, x, per)
			sameChunks(t, "Cut", chunks, formsOf(items, per))
			laid(t, "a script", chunks, items)
		}
	}
}

// kindOf, numberOf: what Read must say, by the words of chapters 1 and 9: the items as they come, and the kind.
func kindOf(b []byte) ([]api.Item, api.Kind) {
	wrong := api.OK
	size := func(most int) int {
		n, used, kind := numberOf(b)
		if wrong == api.OK {
			wrong = kind
		}
		if wrong == api.OK && n > uint64(most) {
			wrong = api.TooLarge
		}
		if wrong != api.OK {
			return 0
		}
		b = b[used:]
		return int(n)
	}
	take := func(most int) []byte {
		n := size(most)
		if wrong == api.OK && n > len(b) {
			wrong = api.Short
		}
		if wrong != api.OK {
			return nil
		}
		out := b[:n]
		b = b[n:]
		return out
	}
	var items []api.Item
	for range size(64) {
		items = append(items, api.Item{Key: take(256), Value: take(1024)})
	}
	if wrong != api.OK {
		return nil, wrong
	}
	keys := map[string]bool{}
	for _, x := range items {
		keys[string(x.Key)] = true
	}
	rising := slices.IsSortedFunc(items, func(a, b api.Item) int { return bytes.Compare(a.Key, b.Key) })
	if len(b) > 0 || len(items) == 0 || keys[""] || len(keys) < len(items) || !rising {
		return nil, api.BadForm
	}
	return items, api.OK
}

func numberOf(b []byte) (n uint64, used int, kind api.Kind) {
	for i, x := range b {
		if i == 9 && x > 1 || i > 0 && x == 0 {
			return 0, 0, api.BadForm
		}
		n += uint64(x%128) << (7 * i)
		if x < 128 {
			return n, i + 1, api.OK
		}
	}
	return 0, 0, api.Short
}

// lawOfBytes: of any bytes: what is read is put as it was, and laid.
func lawOfBytes(t *testing.T, b []byte) {
	t.Helper()
	want, kind := kindOf(b)
	if kind != api.OK {
		notRead(t, fmt.Sprintf("%q", b), b, kind)
		x, wrong := chunk.Lay([][]byte{b})
		is(t, "Lay", wrong, kind)
		is(t, "a tree", x, nil)
		return
	}
	read(t, fmt.Sprintf("%q", b), b, want)
	same(t, "put as it was", formOf(want), b)
	x, wrong := chunk.Check(made(t, want).Root(), [][]byte{b})
	is(t, "Check", wrong, api.OK)
	sameChunks(t, "cut as it was", cut(t, x, 64), [][]byte{b})
}

func TestP904ChangedBytes(t *testing.T) {
	for _, items := range [][]api.Item{{item("k", "")}, {item("a", "1"), item("ab", "22"), item("b", "")}, some(7), edges()[:3]} {
		form := formOf(items)
		lawOfBytes(t, form)
		for i := range form {
			for _, y := range []byte{0, 1, 2, 64, 65, 127, 128, 129, 255, form[i] + 1, form[i] - 1} {
				changed := bytes.Clone(form)
				changed[i] = y
				lawOfBytes(t, changed)
			}
			lawOfBytes(t, form[:i])
			lawOfBytes(t, slices.Delete(bytes.Clone(form), i, i+1))
			for _, y := range []byte{0, 1, 128, 255} {
				lawOfBytes(t, slices.Insert(bytes.Clone(form), i, y))
			}
		}
	}
}

// P904: all short bytes of a few values.
func TestP904AllShortBytes(t *testing.T) {
	var all func(b []byte)
	all = func(b []byte) {
		lawOfBytes(t, b)
		if len(b) == 6 {
			return
		}
		for _, y := range []byte{0, 1, 2, 65, 128} {
			all(append(bytes.Clone(b), y))
		}
	}
	all(nil)
}

func FuzzP904(f *testing.F) {
	for _, items := range someChunks() {
		f.Add(formOf(items))
	}
	f.Add([]byte{0})
	f.Fuzz(lawOfBytes)
}
