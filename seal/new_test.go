package seal_test

import (
	"bytes"
	"slices"
	"testing"

	"bulwark/api"
	"bulwark/seal"
)

func TestP301Key(t *testing.T) {
	masters := [][]byte{nil, {}, {0}, []byte("m"), []byte(master), bytes.Repeat([]byte("m"), 300)}
	for _, m := range masters {
		for _, node := range append(nodes(), 0) {
			same(t, "Key", seal.Key(m, node), wantKey(m, node))
		}
	}
}

func TestP301KeyMemory(t *testing.T) {
	m, check := roomy(t, []byte(master))
	key := seal.Key(m, 1)
	spoil(key)
	check()
	same(t, "Key again", seal.Key(m, 1), wantKey([]byte(master), 1))
}

// upTo: count nodes, from first on.
func upTo(first uint64, count int) []uint64 {
	var out []uint64
	for i := range count {
		out = append(out, first+uint64(i))
	}
	return out
}

func TestP301Taken(t *testing.T) {
	lists := [][]uint64{
		{1},
		{7},
		{1<<64 - 1},
		{1, 2},
		{1, 1<<64 - 1},
		{1, 2, 3, 4, 101, 102},
		nodes(),
		upTo(1, 63),
		upTo(1, 64),
		upTo(1<<64-64, 64),
	}
	for _, real := range kinds {
		for _, list := range lists {
			b := book(t, real, list...)
			many(t, b, 0)
			for _, node := range list {
				holds(t, b, node, nil, nil, false, false)
				holds(t, b, node, nil, wantTag(real, []byte(master), node, nil), real, false)
			}
			many(t, b, 0)
		}
	}
}

func TestP301Refused(t *testing.T) {
	lists := map[string][]uint64{
		"none":               nil,
		"an empty list":      {},
		"65":                 upTo(1, 65),
		"1000":               upTo(1, 1000),
		"65 from 0 on":       upTo(0, 65),
		"0":                  {0},
		"from 0 on":          {0, 1, 2},
		"0 later":            {1, 0},
		"one twice":          {1, 1},
		"one twice, later":   {1, 2, 2},
		"one twice, between": {1, 2, 2, 3},
		"fall":               {2, 1},
		"fall later":         {1, 3, 2},
		"fall at the end":    {1, 1<<64 - 1, 2},
		"twice the greatest": {1<<64 - 1, 1<<64 - 1},
		"fall as the 64th":   append(upTo(1, 63), 63),
	}
	for _, real := range kinds {
		for what, list := range lists {
			b, kind := seal.New(real, []byte(master), list)
			if b != nil || kind != api.BadArg {
				t.Errorf("%s: %v, %v", what, b, kind)
			}
		}
	}
}

func TestP301NoMaster(t *testing.T) {
	for _, real := range kinds {
		for _, m := range [][]byte{nil, {}} {
			b, kind := seal.New(real, m, []uint64{1})
			if b == nil || kind != api.OK {
				t.Fatalf("New: %v, %v", b, kind)
			}
			same(t, "Tag", tag(t, b, 1, []byte("a")), wantTag(real, nil, 1, []byte("a")))
		}
	}
}

// What New was given stays as it was, and what is written over it later changes nothing in the book.
func TestP301Memory(t *testing.T) {
	for _, real := range kinds {
		m, check := roomy(t, []byte(master))
		whole := []uint64{1, 2, 3, 4}
		b, kind := seal.New(real, m, whole[:2])
		if kind != api.OK {
			t.Fatal(kind)
		}
		check()
		if !slices.Equal(whole, []uint64{1, 2, 3, 4}) {
			t.Errorf("the nodes have become %v", whole)
		}
		spoil(m)
		whole[0], whole[1] = 8, 9
		for _, node := range []uint64{1, 2} {
			same(t, "Tag", tag(t, b, node, []byte("a")), wantTag(real, []byte(master), node, []byte("a")))
		}
		for _, node := range []uint64{3, 4, 8, 9} {
			if _, kind := b.Tag(node, nil); kind != api.Unknown {
				t.Errorf("Tag of %d: %v", node, kind)
			}
		}
	}
}

func TestP301BooksShareNothing(t *testing.T) {
	for _, real := range kinds {
		one, two := book(t, real, 1, 2), book(t, real, 1, 2)
		said := tag(t, one, 1, []byte("a"))
		many(t, one, 1)
		many(t, two, 0)
		holds(t, one, 1, []byte("a"), said, true, true)
		holds(t, two, 1, []byte("a"), said, real, false)
	}
}
