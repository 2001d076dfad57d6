package tree_test

import (
	"fmt"
	"math"
	"slices"
	"testing"

	"bulwark/api"
	"bulwark/tree"
)

// bounds: nil, empty, keys of the tree, just below and just above them, and others.
func bounds(s store) [][]byte {
	out := [][]byte{nil, {}, {0}, {255}, long(256), long(300), beyond()}
	for _, x := range s.items() {
		out = append(out, x.Key, x.Key[:len(x.Key)-1], append(slices.Clone(x.Key), 0), append(slices.Clone(x.Key), 255))
	}
	return out
}

func checkItems(t *testing.T, x *tree.Tree, s store, lo, hi []byte, most int) {
	t.Helper()
	what := fmt.Sprintf("Items from %q to %q, %d", lo, hi, most)
	want := s.between(lo, hi)
	count := min(max(most, 0), len(want))
	list, more := x.Items(lo, hi, most)
	sameItems(t, what, list, want[:count])
	is(t, what+": more", more, len(want) > count)
}

// P703: all pairs of bounds, lo above hi and lo equal to hi too.
func TestP703ItemsBetweenBounds(t *testing.T) {
	for _, s := range []store{{}, storeOf(mixed()[:1]), storeOf(mixed()[6:12]), storeOf(mixed())} {
		x := made(t, s.items())
		for _, lo := range bounds(s) {
			for _, hi := range bounds(s) {
				checkItems(t, x, s, lo, hi, math.MaxInt)
				checkItems(t, x, s, lo, hi, 1)
				checkItems(t, x, s, lo, hi, 0)
			}
		}
	}
}

// P703: a bound is a key's bytes and no more: below none of them there is nothing.
func TestP703ItemsWithoutBounds(t *testing.T) {
	s := storeOf(mixed())
	x := made(t, s.items())
	for _, hi := range [][]byte{nil, {}} {
		for _, lo := range [][]byte{nil, {}, []byte("k1")} {
			list, more := x.Items(lo, hi, 9)
			is(t, "items below nothing", len(list), 0)
			is(t, "more", more, false)
		}
	}
	list, more := x.Items(nil, beyond(), 1000)
	sameItems(t, "all", list, s.items())
	is(t, "more", more, false)
}

func TestP703ItemsAtMost(t *testing.T) {
	for _, s := range []store{{}, storeOf(mixed()[:1]), storeOf(mixed())} {
		x := made(t, s.items())
		lists := [][2][]byte{{nil, beyond()}, {nil, nil}, {[]byte("k1"), []byte("k3")}, {[]byte("k2"), []byte("k2\x00")}, {[]byte("z"), beyond()}, {[]byte("k3"), []byte("k1")}}
		for _, b := range lists {
			count := len(s.between(b[0], b[1]))
			for _, most := range []int{math.MinInt, -1, 0, 1, 2, count - 1, count, count + 1, math.MaxInt} {
				checkItems(t, x, s, b[0], b[1], most)
			}
		}
		for most := range len(s) + 3 {
			checkItems(t, x, s, nil, beyond(), most)
		}
	}
}

// P703: by pieces, from where the last one ended, there is all of it.
func TestP703ItemsPiecewise(t *testing.T) {
	s := storeOf(mixed())
	x := made(t, s.items())
	for most := 1; most < 6; most++ {
		var all []api.Item
		var lo []byte
		for more := true; more; {
			var list []api.Item
			list, more = x.Items(lo, beyond(), most)
			all = append(all, list...)
			lo = append(slices.Clone(list[len(list)-1].Key), 0)
		}
		sameItems(t, "all pieces", all, s.items())
	}
}

func TestP703Len(t *testing.T) {
	var x *tree.Tree
	is(t, "Len of nil", x.Len(), 0)
	for i, key := range mixed() {
		x = put(t, x, key, nil)
		is(t, "Len", x.Len(), i+1)
		is(t, "Len of the same key again", put(t, x, key, []byte("again")).Len(), i+1)
	}
	for i, key := range mixed() {
		x = del(t, x, key)
		is(t, "Len", x.Len(), len(mixed())-1-i)
	}
}

func TestP703LenOfMany(t *testing.T) {
	var l []api.Item
	for i := range 20000 {
		l = append(l, api.Item{Key: fmt.Appendf(nil, "%05d", i), Value: []byte{byte(i)}})
	}
	x := made(t, l)
	is(t, "Len", x.Len(), len(l))
	list, more := x.Items([]byte("07000"), []byte("18000"), 5000)
	sameItems(t, "Items", list, l[7000:12000])
	is(t, "more", more, true)
}

func TestP703ItemsChangeNothing(t *testing.T) {
	s := storeOf(mixed())
	x := made(t, s.items())
	lo, hi := roomy([]byte("k1")), roomy([]byte("k9"))
	beforeLo, beforeHi := whole(lo), whole(hi)
	first, _ := x.Items(lo, hi, 5)
	same(t, "lo handed in", whole(lo), beforeLo)
	same(t, "hi handed in", whole(hi), beforeHi)
	again, _ := x.Items(lo, hi, 5)
	sameItems(t, "asked again", again, first)
	holds(t, "asked", x, s)
}

func TestP703ItemsAreNewMemory(t *testing.T) {
	s := storeOf(mixed())
	x := made(t, s.items())
	first, _ := x.Items(nil, beyond(), 100)
	second, _ := x.Items(nil, beyond(), 100)
	for i, item := range first {
		spoil(item.Key)
		if i > 0 {
			continue
		}
		spoil(item.Value)
	}
	// the values of one list stand apart from its keys, and from one another
	for i, item := range first[1:] {
		same(t, "value beside", item.Value, second[i+1].Value)
		spoil(item.Value)
	}
	clear(first[:cap(first)])
	sameItems(t, "second", second, s.items())
	holds(t, "spoiled", x, s)
}
