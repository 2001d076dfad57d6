package tree_test

import (
	"fmt"
	"math/rand"
	"testing"

	"bulwark/api"
	"bulwark/tree"
)

// P702: into nothing, and one by one into more, with every tree that came before as it was.
func TestP702PutOneByOne(t *testing.T) {
	var trees []*tree.Tree
	var stores []store
	var x *tree.Tree
	s := store{}
	for i, key := range mixed() {
		trees, stores = append(trees, x), append(stores, s)
		value := fmt.Appendf(nil, "value %d", i)
		x, s = put(t, x, key, value), s.with(key, value)
		holds(t, "put", x, s)
		for j := range trees {
			holds(t, "before", trees[j], stores[j])
		}
	}
}

func TestP702PutAgain(t *testing.T) {
	s := storeOf(mixed())
	x := made(t, s.items())
	for _, key := range mixed() {
		holds(t, "the same value", put(t, x, key, []byte(s[string(key)])), s)
		for _, value := range [][]byte{nil, {}, []byte("another"), long(1024)} {
			y := put(t, x, key, value)
			holds(t, "another value", y, s.with(key, value))
			holds(t, "before", x, s)
			holds(t, "back", put(t, y, key, []byte(s[string(key)])), s)
		}
	}
}

func TestP702PutFaults(t *testing.T) {
	cases := []struct {
		name       string
		key, value []byte
		wrong      api.Kind
	}{
		{"nil", nil, nil, api.BadKey},
		{"an empty key", []byte{}, []byte("v"), api.BadKey},
		{"a key of 257 bytes", long(257), []byte("v"), api.BadKey},
		{"a key of 4000 bytes", long(4000), nil, api.BadKey},
		{"a value of 1025 bytes", []byte("x"), long(1025), api.TooLarge},
		{"a value of 1025 bytes again", mixed()[0], long(1025), api.TooLarge},
		{"a value of 9000 bytes", long(256), long(9000), api.TooLarge},
		{"no key, a value too large", nil, long(1025), api.BadKey},
		{"a key too long, a value too large", long(257), long(1025), api.BadKey},
		{"a key of 1 byte", []byte{0}, nil, api.OK},
		{"a key of 256 bytes", long(256), long(1024), api.OK},
		{"a value that is nil", []byte("x"), nil, api.OK},
		{"a value of 1 byte", []byte("x"), []byte{0}, api.OK},
		{"a value of 1024 bytes", []byte("x"), long(1024), api.OK},
	}
	for _, s := range []store{{}, storeOf(mixed()[:1]), storeOf(mixed())} {
		x := made(t, s.items())
		for _, c := range cases {
			y, wrong := x.Put(c.key, c.value)
			is(t, c.name, wrong, c.wrong)
			if c.wrong == api.OK {
				holds(t, c.name, y, s.with(c.key, c.value))
			} else if y != nil {
				t.Errorf("%s: a tree beside %d", c.name, wrong)
			}
			holds(t, "before", x, s)
		}
	}
}

// P702: many trees of one: each has its own item and no other's.
func TestP702PutAside(t *testing.T) {
	all := mixed()
	for _, key := range all {
		s := storeOf(all).without(key)
		x := made(t, s.items())
		var beside []*tree.Tree
		for i := range 3 {
			beside = append(beside, put(t, x, key, []byte{byte(i)}))
			beside = append(beside, put(t, x, append(key, 0), []byte{byte(i)}))
		}
		for i, y := range beside {
			own := key
			if i%2 == 1 {
				own = append(key, 0)
			}
			holds(t, "beside", y, s.with(own, []byte{byte(i / 2)}))
		}
		holds(t, "before", x, s)
	}
}

func TestP702DelEach(t *testing.T) {
	s := storeOf(mixed())
	x := made(t, s.items())
	for _, key := range mixed() {
		y := del(t, x, key)
		holds(t, "deleted", y, s.without(key))
		holds(t, "before", x, s)
		z, was := y.Del(key)
		is(t, "deleted again", was, false)
		holds(t, "deleted again", z, s.without(key))
		holds(t, "put back", put(t, y, key, []byte(s[string(key)])), s)
	}
}

// P702: down to nothing, in many orders; every tree that came before is as it was.
func TestP702DelAll(t *testing.T) {
	keys := mixed()
	r := rand.New(rand.NewSource(702))
	for range 20 {
		r.Shuffle(len(keys), func(i, j int) { keys[i], keys[j] = keys[j], keys[i] })
		s := storeOf(keys)
		x := made(t, s.items())
		var trees []*tree.Tree
		var stores []store
		for _, key := range keys {
			trees, stores = append(trees, x), append(stores, s)
			x, s = del(t, x, key), s.without(key)
			holds(t, "deleted", x, s)
		}
		is(t, "Len", x.Len(), 0)
		same(t, "Root", x.Root(), sum([]byte("empty")))
		for j := range trees {
			holds(t, "before", trees[j], stores[j])
		}
	}
}

// P702: what stood to both sides of a key that was alone in its node comes together.
func TestP702DelAloneInItsNode(t *testing.T) {
	for level := 1; level < 4; level++ {
		for _, alone := range keysAt(level, 3) {
			s := storeOf(keysAt(0, 12)).with(alone, []byte("alone"))
			x := made(t, s.items())
			is(t, "Level", x.Top().Level, level)
			y := del(t, x, alone)
			holds(t, "without it", y, s.without(alone))
			is(t, "Level", y.Top().Level, 0)
		}
	}
}

func TestP702DelAside(t *testing.T) {
	s := storeOf(mixed())
	x := made(t, s.items())
	for _, one := range mixed() {
		y := del(t, x, one)
		for _, other := range mixed() {
			if string(one) != string(other) {
				holds(t, "both", del(t, y, other), s.without(one).without(other))
			}
		}
		holds(t, "one", y, s.without(one))
	}
	holds(t, "before", x, s)
}

// strangers: keys that no tree of mixed has, and some that are none.
func strangers() [][]byte {
	return [][]byte{nil, {}, {0}, []byte("k"), []byte("k1\x00"), []byte("k6210"), []byte("z"), {255}, long(256), long(257), beyond()}
}

func TestP702OfWhatIsNotThere(t *testing.T) {
	for _, s := range []store{{}, storeOf(mixed()[:1]), storeOf(mixed())} {
		x := made(t, s.items())
		for _, key := range strangers() {
			y, was := x.Del(key)
			is(t, fmt.Sprintf("Del of %q", key), was, false)
			holds(t, "as it was", y, s)
			value, has := x.Get(key)
			is(t, fmt.Sprintf("Get of %q", key), has, false)
			is(t, "no value", len(value), 0)
		}
	}
}

func TestP702Get(t *testing.T) {
	x := put(t, nil, []byte("a"), nil)
	x = put(t, x, []byte("b"), []byte{})
	x = put(t, x, []byte("c"), []byte{0})
	x = put(t, x, []byte("d"), long(1024))
	for key, value := range map[string][]byte{"a": nil, "b": nil, "c": {0}, "d": long(1024)} {
		got, has := x.Get([]byte(key))
		is(t, "has "+key, has, true)
		same(t, "Get", got, value)
	}
}

func TestP702ChangesAndKeepsNothing(t *testing.T) {
	s := storeOf(mixed())
	x := made(t, s.items())
	for _, plain := range append(strangers()[2:9], mixed()...) {
		key, value := roomy(plain), roomy([]byte("put"))
		beforeKey, beforeValue := whole(key), whole(value)
		y := put(t, x, key, value)
		y.Get(key)
		z := del(t, y, key)
		same(t, "key handed in", whole(key), beforeKey)
		same(t, "value handed in", whole(value), beforeValue)
		spoil(key)
		spoil(value)
		holds(t, "put", y, s.with(plain, []byte("put")))
		holds(t, "deleted", z, s.without(plain))
		holds(t, "before", x, s)
	}
}

func TestP702GetIsNewMemory(t *testing.T) {
	s := storeOf(mixed())
	x := made(t, s.items())
	y := put(t, x, []byte("z"), roomy([]byte("put")))
	for _, key := range mixed() {
		for range 2 {
			value, _ := x.Get(key)
			spoil(value)
			value, _ = y.Get(key)
			spoil(value)
		}
	}
	holds(t, "spoiled", x, s)
	holds(t, "spoiled", y, s.with([]byte("z"), []byte("put")))
}

// A tree that nobody made has nothing, as nil has.
func TestP702NilAndZero(t *testing.T) {
	for _, x := range []*tree.Tree{nil, {}} {
		holds(t, "nothing", x, store{})
		holds(t, "put", put(t, x, []byte("a"), []byte("v")), store{"a": "v"})
		y, was := x.Del([]byte("a"))
		is(t, "was", was, false)
		holds(t, "deleted", y, store{})
		value, has := x.Get([]byte("a"))
		is(t, "has", has, false)
		is(t, "no value", len(value), 0)
	}
}
