package chunk_test

import (
	"bytes"
	"fmt"
	"slices"
	"testing"

	"bulwark/api"
	"bulwark/chunk"
	"bulwark/tree"
)

// chunkOf: of items with these keys, whose values are the keys.
func chunkOf(keys ...string) []byte {
	var items []api.Item
	for _, key := range keys {
		items = append(items, item(key, key))
	}
	return formOf(items)
}

// unreadable: chunks that can't be read, with their kinds.
func unreadable() map[string]struct {
	b    []byte
	want api.Kind
} {
	return map[string]struct {
		b    []byte
		want api.Kind
	}{
		"nil":             {nil, api.Short},
		"no bytes":        {[]byte{}, api.Short},
		"cut short":       {[]byte("\x02\x01m\x00"), api.Short},
		"no item":         {[]byte{0}, api.BadForm},
		"an empty key":    {chunkOf(""), api.BadForm},
		"keys that fall":  {chunkOf("n", "m"), api.BadForm},
		"the same keys":   {chunkOf("m", "m"), api.BadForm},
		"more behind":     {append(chunkOf("m"), 0), api.BadForm},
		"not shortest":    {[]byte("\x81\x00\x01m\x00"), api.BadForm},
		"too many items":  {formOf(some(65)), api.TooLarge},
		"a key too long":  {chunkOf(string(long(257))), api.TooLarge},
		"value too large": {formOf([]api.Item{{Key: []byte("m"), Value: long(1025)}}), api.TooLarge},
	}
}

func TestP903Laid(t *testing.T) {
	three := []api.Item{item("a", "a"), item("b", "b"), item("c", "c")}
	laid(t, "one chunk", [][]byte{chunkOf("a", "b", "c")}, three)
	laid(t, "two", [][]byte{chunkOf("a", "b"), chunkOf("c")}, three)
	laid(t, "the first one smaller", [][]byte{chunkOf("a"), chunkOf("b", "c")}, three)
	laid(t, "three", [][]byte{chunkOf("a"), chunkOf("b"), chunkOf("c")}, three)
	laid(t, "the beginning of the next one", [][]byte{chunkOf("a"), chunkOf("a\x00"), chunkOf("aa", "b")}, []api.Item{item("a", "a"), item("a\x00", "a\x00"), item("aa", "aa"), item("b", "b")})
	laid(t, "edges", [][]byte{formOf(edges()[:3]), formOf(edges()[3:4]), formOf(edges()[4:])}, edges())
	laid(t, "the largest ones", [][]byte{formOf(some(128)[:64]), formOf(some(128)[64:])}, some(128))
}

// P903: of no chunk the empty tree.
func TestP903NoChunk(t *testing.T) {
	root := (*tree.Tree)(nil).Root()
	for name, chunks := range map[string][][]byte{"nil": nil, "empty": {}, "empty, with room": make([][]byte, 0, 3)} {
		laid(t, name, chunks, nil)
		checked(t, name, root, chunks, nil)
		for _, other := range [][]byte{nil, {}, long(32), made(t, some(1)).Root(), root[:31], append(bytes.Clone(root), 0)} {
			notChecked(t, fmt.Sprintf("%s, root %q", name, other), other, chunks, api.BadProof)
		}
	}
}

// P903: a chunk's kind is told wherever it stands, ahead of and behind one that does not rise.
func TestP903Unreadable(t *testing.T) {
	a, z := chunkOf("a", "b"), chunkOf("y", "z")
	for name, c := range unreadable() {
		notRead(t, name, c.b, c.want)
		for where, chunks := range map[string][][]byte{
			"alone":                          {c.b},
			"first":                          {c.b, a, z},
			"between":                        {a, c.b, z},
			"last":                           {a, z, c.b},
			"ahead of one that falls":        {c.b, z, a},
			"behind one that falls":          {z, a, c.b},
			"within one that falls":          {z, c.b, a},
			"behind one that comes twice":    {a, a, c.b},
			"ahead of one that comes twice":  {c.b, a, a},
			"far behind one that falls":      {z, a, a, z, z, a, c.b},
			"twice":                          {c.b, c.b},
			"ahead of one that is as it was": {a, c.b, a},
		} {
			notLaid(t, name+", "+where, chunks, c.want)
		}
	}
}

// P903: of two that can't be read the first one's kind is told.
func TestP903FirstUnreadable(t *testing.T) {
	a, z := chunkOf("a", "b"), chunkOf("y", "z")
	for name, one := range unreadable() {
		for other, two := range unreadable() {
			what := name + ", " + other
			notLaid(t, what, [][]byte{one.b, two.b}, one.want)
			notLaid(t, what+", apart", [][]byte{a, one.b, z, two.b}, one.want)
			notLaid(t, what+", behind one that falls", [][]byte{z, a, one.b, two.b}, one.want)
		}
	}
}

func TestP903DoesNotRise(t *testing.T) {
	for name, chunks := range map[string][][]byte{
		"the same one twice":             {chunkOf("a"), chunkOf("a")},
		"a longer one twice":             {chunkOf("a", "b"), chunkOf("a", "b")},
		"another order":                  {chunkOf("b"), chunkOf("a")},
		"first as the last ahead":        {chunkOf("a", "b"), chunkOf("b", "c")},
		"first as the first ahead":       {chunkOf("a", "c"), chunkOf("a")},
		"first below the last ahead":     {chunkOf("a", "c"), chunkOf("b", "d")},
		"within the one ahead":           {chunkOf("a", "z"), chunkOf("b", "c")},
		"around the one ahead":           {chunkOf("b", "c"), chunkOf("a", "z")},
		"the last one falls":             {chunkOf("a"), chunkOf("b"), chunkOf("c"), chunkOf("b\xff")},
		"the second one falls":           {chunkOf("b"), chunkOf("a"), chunkOf("c"), chunkOf("d")},
		"only the first two, then above": {chunkOf("b", "c"), chunkOf("a"), chunkOf("d")},
		"a beginning behind":             {chunkOf("ab"), chunkOf("a")},
		"bytes above 127":                {chunkOf("\x80"), chunkOf("\x7f")},
		"nought behind":                  {chunkOf("a"), chunkOf("\x00")},
		"of other values":                {formOf([]api.Item{item("a", "1")}), formOf([]api.Item{item("a", "2")})},
	} {
		notLaid(t, name, chunks, api.BadForm)
	}
}

// P903: every order of a few chunks: just the one that rises is laid.
func TestP903EveryOrder(t *testing.T) {
	items := some(10)
	chunks := formsOf(items, 3)
	var orders func(order []int)
	orders = func(order []int) {
		var l [][]byte
		for _, i := range order {
			l = append(l, chunks[i])
		}
		if !slices.IsSorted(order) {
			notLaid(t, fmt.Sprint("order ", order), l, api.BadForm)
		} else if len(order) == len(chunks) {
			laid(t, "all of them", l, items)
		}
		for i := range chunks {
			if !slices.Contains(order, i) {
				orders(append(slices.Clone(order), i))
			}
		}
	}
	orders(nil)
}

// P903: each one twice, in each place.
func TestP903Twice(t *testing.T) {
	items := some(10)
	chunks := formsOf(items, 2)
	for i := range chunks {
		for place := range len(chunks) + 1 {
			notLaid(t, fmt.Sprintf("chunk %d again at %d", i, place), slices.Insert(slices.Clone(chunks), place, chunks[i]), api.BadForm)
		}
	}
}

// P903: without some of its chunks it is another tree, that Lay can't tell, but Check can.
func TestP903Missing(t *testing.T) {
	items := some(10)
	root := made(t, items).Root()
	for per := 1; per <= 10; per++ {
		chunks := formsOf(items, per)
		for i := range chunks {
			some := slices.Delete(slices.Clone(chunks), i, i+1)
			rest := slices.Delete(slices.Clone(items), i*per, min(i*per+per, len(items)))
			what := fmt.Sprintf("per %d, without chunk %d", per, i)
			laid(t, what, some, rest)
			notChecked(t, what, root, some, api.BadProof)
		}
	}
}

func TestP903OtherRoots(t *testing.T) {
	items := some(10)
	chunks := formsOf(items, 4)
	root := made(t, items).Root()
	checked(t, "its own", root, chunks, items)
	others := map[string][]byte{
		"nil": nil, "empty": {}, "the empty tree's": made(t, nil).Root(), "another tree's": made(t, items[1:]).Root(),
		"one byte fewer": root[:31], "one byte fewer ahead": root[1:], "one byte more": append(bytes.Clone(root), 0),
		"twice": slices.Concat(root, root), "noughts": make([]byte, 32), "one byte": root[:1],
	}
	for name, other := range others {
		notChecked(t, name, other, chunks, api.BadProof)
	}
	for i := range 8 * len(root) {
		other := bytes.Clone(root)
		other[i/8] ^= 1 << (i % 8)
		notChecked(t, fmt.Sprint("bit ", i), other, chunks, api.BadProof)
	}
}

// P903: with another item anywhere it is another tree.
func TestP903OtherItems(t *testing.T) {
	items := some(10)
	root := made(t, items).Root()
	for i := range items {
		other := slices.Clone(items)
		other[i].Value = append(bytes.Clone(other[i].Value), 0)
		notChecked(t, "another value", root, formsOf(other, 3), api.BadProof)
		other = slices.Clone(items)
		other[i].Key = append(bytes.Clone(other[i].Key), 0, 0)
		slices.SortFunc(other, func(a, b api.Item) int { return bytes.Compare(a.Key, b.Key) })
		notChecked(t, "another key", root, formsOf(other, 3), api.BadProof)
		more := slices.Insert(slices.Clone(items), i+1, item(string(items[i].Key)+"\x00\x00", ""))
		slices.SortFunc(more, func(a, b api.Item) int { return bytes.Compare(a.Key, b.Key) })
		notChecked(t, "one more", root, formsOf(more, 3), api.BadProof)
	}
}

// P903: Lay's kind ahead of the root's, where both are wrong, and where the root is that of what could be read.
func TestP903LaysKindFirst(t *testing.T) {
	a := chunkOf("a")
	root := made(t, []api.Item{item("a", "a")}).Root()
	for name, c := range unreadable() {
		notChecked(t, name, root, [][]byte{a, c.b}, c.want)
		notChecked(t, name+", first", root, [][]byte{c.b, a}, c.want)
		notChecked(t, name+", no root", nil, [][]byte{a, c.b}, c.want)
	}
	notChecked(t, "twice", root, [][]byte{a, a}, api.BadForm)
	notChecked(t, "falls", nil, [][]byte{chunkOf("b"), a}, api.BadForm)
}

func TestP903ChangesNothing(t *testing.T) {
	items := some(30)
	root := roomy(made(t, items).Root(), 7, 7, 7)
	room := bytes.Clone(root[:cap(root)])
	chunks := roomyChunks(formsOf(items, 7))
	before := dump(chunks)
	one, _ := chunk.Lay(chunks)
	two, _ := chunk.Check(root, chunks)
	is(t, "the chunks", dump(chunks), before)
	same(t, "the root", root[:cap(root)], room)
	for name, x := range map[string]*tree.Tree{"laid": one, "checked": two} {
		more, _ := x.Put([]byte("more"), []byte("value"))
		holds(t, name+", put into", more, append(slices.Clone(items), item("more", "value")))
		list, _ := x.Items(nil, []byte("z"), 100)
		spoilItems(list)
	}
	is(t, "the chunks behind it", dump(chunks), before)
	laid(t, "again", chunks, items)

	notChecked(t, "other root", root[:1], chunks, api.BadProof)
	slices.Reverse(chunks)
	before = dump(chunks)
	notLaid(t, "falls", chunks, api.BadForm)
	is(t, "the chunks that fall", dump(chunks), before)
	same(t, "the root at last", root[:cap(root)], room)

	spoilChunks(chunks)
	spoil(root)
	holds(t, "laid, and kept", one, items)
	holds(t, "checked, and kept", two, items)
}

// P903: chunks that stand in one list of bytes are told apart all the same.
func TestP903SharedBytes(t *testing.T) {
	items := some(9)
	forms := formsOf(items, 2)
	all := slices.Concat(forms...)
	var chunks [][]byte
	for _, b := range forms {
		chunks = append(chunks, all[:len(b)])
		all = all[len(b):]
	}
	laid(t, "one behind the other", chunks, items)
}
