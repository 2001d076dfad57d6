package tree_test

import (
	"bytes"
	"fmt"
	"math/rand"
	"slices"
	"testing"

	"bulwark/api"
	"bulwark/tree"
)

// P701: levels that were found by other means than the project's and its tests'.
func TestP701LevelsWrittenOut(t *testing.T) {
	cases := map[string]int{
		"": 0, "a": 0, "key": 0, "k1": 0, "k3": 0,
		"k0": 1, "k2": 1, "k118": 1, "\x18": 1, "\xfc": 1,
		"k621": 2, "k791": 2, "k1231": 2, "\x7a": 2,
		"k64": 3, "k2181": 3, "k34254": 3,
		"k47427": 4, "k110030": 4, "k373170": 4,
	}
	for key, level := range cases {
		is(t, fmt.Sprintf("Level of %q", key), tree.Level([]byte(key)), level)
	}
	is(t, "Level of nil", tree.Level(nil), 0)
}

func TestP701LevelOfAnyBytes(t *testing.T) {
	seen := map[int]int{}
	for i := range 1 << 13 {
		key := fmt.Appendf(nil, "%x", i)
		seen[levelOf(key)]++
		is(t, fmt.Sprintf("Level of %q", key), tree.Level(key), levelOf(key))
	}
	for size := range 300 {
		is(t, fmt.Sprintf("Level of %d bytes", size), tree.Level(long(size)), levelOf(long(size)))
	}
	if seen[1] == 0 || seen[2] == 0 || seen[3] == 0 {
		t.Errorf("levels: %v", seen)
	}
}

func TestP701LevelChangesNothing(t *testing.T) {
	key := roomy([]byte("k64"))
	before := whole(key)
	tree.Level(key)
	same(t, "handed in", whole(key), before)
}

func TestP701MakeOfNone(t *testing.T) {
	for _, l := range [][]api.Item{nil, {}} {
		x, wrong := tree.Make(l)
		is(t, "Make", wrong, api.OK)
		holds(t, "of none", x, store{})
	}
}

func TestP701MakeInAnyOrder(t *testing.T) {
	s := storeOf(mixed())
	l := s.items()
	holds(t, "rising", made(t, l), s)
	slices.Reverse(l)
	holds(t, "falling", made(t, l), s)
	r := rand.New(rand.NewSource(701))
	for range 50 {
		r.Shuffle(len(l), func(i, j int) { l[i], l[j] = l[j], l[i] })
		holds(t, "shuffled", made(t, l), s)
	}
}

func TestP701MakeOfOneLevel(t *testing.T) {
	for level := range 4 {
		for count := 1; count < 5; count++ {
			s := storeOf(keysAt(level, count))
			x := made(t, s.items())
			holds(t, "one level", x, s)
			is(t, "Level", x.Top().Level, level)
		}
	}
}

// P701: one fault alone, at each place, and at the edges what is none.
func TestP701MakeFaults(t *testing.T) {
	good := storeOf(mixed()[:5]).items()
	cases := []struct {
		name  string
		item  api.Item
		wrong api.Kind
	}{
		{"a key of 1 byte", api.Item{Key: []byte{0}}, api.OK},
		{"a key of 256 bytes", api.Item{Key: long(256)}, api.OK},
		{"a value that is nil", api.Item{Key: []byte("x")}, api.OK},
		{"a value of 1024 bytes", api.Item{Key: []byte("x"), Value: long(1024)}, api.OK},
		{"a key that is nil", api.Item{Value: []byte("v")}, api.BadKey},
		{"an empty key", api.Item{Key: []byte{}, Value: []byte("v")}, api.BadKey},
		{"a key of 257 bytes", api.Item{Key: long(257)}, api.BadKey},
		{"a key of 5000 bytes", api.Item{Key: long(5000)}, api.BadKey},
		{"a value of 1025 bytes", api.Item{Key: []byte("x"), Value: long(1025)}, api.TooLarge},
		{"a value of 9000 bytes", api.Item{Key: []byte("x"), Value: long(9000)}, api.TooLarge},
		{"a key again", api.Item{Key: good[2].Key, Value: []byte("another")}, api.BadArg},
		{"an item again", good[2], api.BadArg},
		{"bad key, value too large", api.Item{Value: long(1025)}, api.BadKey},
		{"value too large of a key again", api.Item{Key: good[2].Key, Value: long(1025)}, api.TooLarge},
	}
	for _, c := range cases {
		for place := range len(good) + 1 {
			x, wrong := tree.Make(slices.Insert(slices.Clone(good), place, c.item))
			is(t, c.name, wrong, c.wrong)
			if c.wrong != api.OK && x != nil {
				t.Errorf("%s: a tree beside %d", c.name, wrong)
			}
			if c.wrong == api.OK {
				s := store{}
				for _, item := range good {
					s = s.with(item.Key, item.Value)
				}
				holds(t, c.name, x, s.with(c.item.Key, c.item.Value))
			}
		}
	}
}

// P701: of faults of several items the chapter's first one is told, wherever they stand.
func TestP701MakeTellsTheFirstFault(t *testing.T) {
	badKey, tooLarge := api.Item{Key: long(257)}, api.Item{Key: []byte("x"), Value: long(1025)}
	once, again := api.Item{Key: []byte("y"), Value: []byte("1")}, api.Item{Key: []byte("y"), Value: []byte("2")}
	cases := []struct {
		l     []api.Item
		wrong api.Kind
	}{
		{[]api.Item{badKey, tooLarge, once, again}, api.BadKey},
		{[]api.Item{badKey, tooLarge}, api.BadKey},
		{[]api.Item{badKey, once, again}, api.BadKey},
		{[]api.Item{tooLarge, once, again}, api.TooLarge},
		{[]api.Item{tooLarge, tooLarge}, api.TooLarge},
		{[]api.Item{badKey, badKey}, api.BadKey},
		{[]api.Item{once, again, again}, api.BadArg},
	}
	r := rand.New(rand.NewSource(7))
	for i, c := range cases {
		for range 24 {
			r.Shuffle(len(c.l), func(i, j int) { c.l[i], c.l[j] = c.l[j], c.l[i] })
			x, wrong := tree.Make(c.l)
			is(t, fmt.Sprint("case ", i), wrong, c.wrong)
			is(t, "no tree", x == nil, true)
		}
	}
}

// P701: two keys are the same where all of their bytes are.
func TestP701MakeOfKeysThatAreNear(t *testing.T) {
	s := storeOf([][]byte{{0}, {0, 0}, {0, 0, 0}, {0, 1}, {1}, {1, 0}, {128}, {255}, {255, 255}, long(255), long(256)})
	holds(t, "near", made(t, s.items()), s)
	_, wrong := tree.Make(append(s.items(), api.Item{Key: []byte{0, 0}}))
	is(t, "again", wrong, api.BadArg)
}

func TestP701MakeChangesAndKeepsNothing(t *testing.T) {
	s := storeOf(mixed())
	l := s.items()
	slices.Reverse(l)
	l = append(l, make([]api.Item, 8)...)[:len(l)]
	room := l[:cap(l)]
	for i := range room[len(l):] {
		room[len(l)+i] = api.Item{Key: []byte("room")}
	}
	for i := range l {
		l[i] = api.Item{Key: roomy(l[i].Key), Value: roomy(l[i].Value)}
	}
	var before [][]byte
	for _, item := range room {
		before = append(before, whole(item.Key), whole(item.Value))
	}
	x := made(t, l)
	for i, item := range room {
		same(t, "key handed in", whole(item.Key), before[2*i])
		same(t, "value handed in", whole(item.Value), before[2*i+1])
	}
	for i, item := range room {
		spoil(item.Key)
		spoil(item.Value)
		room[i] = api.Item{}
	}
	holds(t, "spoiled", x, s)
}

func TestP701MakeOfEveryByte(t *testing.T) {
	s := store{}
	for i := range 256 {
		s = s.with([]byte{byte(i)}, bytes.Repeat([]byte{byte(i)}, i%7))
	}
	x := made(t, s.items())
	holds(t, "every byte", x, s)
	is(t, "Level", x.Top().Level, 2)
	is(t, "keys at the top", len(x.Top().Keys), 1)
}
