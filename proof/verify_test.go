package proof_test

import (
	"bytes"
	"fmt"
	"math"
	"slices"
	"testing"

	"bulwark/api"
	"bulwark/proof"
	"bulwark/tree"
)

// verified: OK and just these items.
func verified(t *testing.T, what string, root []byte, lo, hi string, p part, want ...api.Item) {
	t.Helper()
	list, kind := proof.Verify(root, []byte(lo), []byte(hi), p)
	is(t, what, kind, api.OK)
	sameItems(t, what, list, want)
}

func refused(t *testing.T, what string, root []byte, lo, hi string, p part) {
	t.Helper()
	list, kind := proof.Verify(root, []byte(lo), []byte(hi), p)
	is(t, what, kind, api.BadProof)
	is(t, what+": items", len(list), 0)
}

// P802: parts written out.
func TestP802VerifyWrittenOut(t *testing.T) {
	root := made(t, small()).Root()
	items := small()
	leaf1, leaf3 := leafPart("k1", "v1", true), leafPart("k3", "", true)
	dark1, dark3 := leafPart("k1", "v1", false), leafPart("k3", "", false)
	off1, off3 := prunedPart(leaf1), prunedPart(leaf3)

	verified(t, "all", root, "", "l", smallPart(true, true, leaf1, leaf3), items...)
	verified(t, "k1", root, "k1", "k2", smallPart(false, false, leaf1, off3), items[1])
	verified(t, "k2", root, "k2", "k2\x00", smallPart(false, true, off1, off3), items[2])
	verified(t, "k1 to k3", root, "k1", "k3\x00", smallPart(false, true, leaf1, leaf3), items[1:]...)
	verified(t, "between keys", root, "k1\x00", "k2", smallPart(false, false, dark1, off3))
	verified(t, "what need not be pruned is not", root, "k2", "k2\x00", smallPart(false, true, dark1, dark3), items[2])

	refused(t, "k1 pruned", root, "k1", "k2", smallPart(false, false, off1, off3))
	refused(t, "k1 dark", root, "k1", "k2", smallPart(false, false, dark1, off3))
	refused(t, "k0 known", root, "k1", "k2", smallPart(true, false, leaf1, off3))
	refused(t, "k2 dark", root, "k2", "k2\x00", smallPart(false, false, off1, off3))
	refused(t, "k1 shown beside", root, "k2", "k2\x00", smallPart(false, true, leaf1, off3))
	refused(t, "k1 left out", root, "k1", "k2", smallPart(false, false, part{}, off3))
}

// P802: bounds at which a part may just be pruned, and just may not.
func TestP802JustPruned(t *testing.T) {
	root := made(t, small()).Root()
	leaf1, leaf3 := leafPart("k1", "v1", true), leafPart("k3", "", true)
	off1, off3 := prunedPart(leaf1), prunedPart(leaf3)
	k2 := small()[2]

	verified(t, "upper bound is lo", root, "k2", "k2\x00", smallPart(false, true, off1, off3), k2)
	refused(t, "upper bound is above lo", root, "k1\xff\xff", "k2\x00", smallPart(false, true, off1, off3))
	verified(t, "lower with 0 is hi", root, "k2", "k2\x00", smallPart(false, true, off1, off3), k2)
	refused(t, "lower with 0 is below hi", root, "k2", "k2\x00\x00", smallPart(false, true, off1, off3))
	verified(t, "lower is hi", root, "k1", "k2", smallPart(false, false, leaf1, off3), small()[1])
	verified(t, "upper is below lo", root, "k3", "k3\x00", smallPart(false, false, off1, leaf3), small()[3])
	refused(t, "no upper bound", root, "l", "m", smallPart(false, false, off1, off3))
	first := smallPart(false, false, off1, off3)
	first.Kids[0] = part{Pruned: true, Sum: sum("empty")}
	refused(t, "no lower bound", root, "", "\x00", first)
	verified(t, "a kid for no node, pruned", root, "k0", "k0\x00", pruneFirst(smallPart(true, false, off1, off3)), small()[0])
	refused(t, "it may not be", root, "j", "k0\x00", pruneFirst(smallPart(true, false, off1, off3)))
	verified(t, "a kid for no node beside a pruned one", root, "j", "k0\x00", smallPart(true, false, off1, off3), small()[0])
}

func pruneFirst(p part) part {
	p.Kids[0] = part{Pruned: true, Sum: sum("empty")}
	return p
}

// P802: at the top there are no bounds, so that a part is pruned there just where nothing is asked for.
func TestP802PrunedTop(t *testing.T) {
	root := made(t, small()).Root()
	top := part{Pruned: true, Sum: root}
	verified(t, "lo is hi", root, "k1", "k1", top)
	verified(t, "lo is above hi", root, "k1\x00", "k1", top)
	verified(t, "both empty", root, "", "", top)
	refused(t, "lo is below hi", root, "k1", "k1\x00", top)
	refused(t, "lo is below hi, none can stand there", root, "", "\x00", top)
	refused(t, "beyond all", root, "z", "zz", top)
	refused(t, "another root", sum("x"), "k1", "k1", top)
	for _, l := range [][2][]byte{{nil, nil}, {nil, {}}, {{}, nil}, {{}, {}}} {
		list, kind := proof.Verify(root, l[0], l[1], top)
		is(t, "nil and empty", kind, api.OK)
		is(t, "items", len(list), 0)
	}
	for _, x := range [][]byte{nil, {}, {1}, bytes.Repeat([]byte{3}, 99)} {
		verified(t, "a root of any size", x, "b", "a", part{Pruned: true, Sum: x})
	}
	dark := smallPart(false, false, leafPart("k1", "v1", false), leafPart("k3", "", false))
	verified(t, "not pruned, nothing asked", root, "k1", "k1", dark)
	refused(t, "not pruned, k1 known", root, "k1", "k1", smallPart(false, false, leafPart("k1", "v1", true), leafPart("k3", "", false)))
}

// P802: what stands beneath a pruned part is none of its.
func TestP802BeneathPruned(t *testing.T) {
	root := made(t, small()).Root()
	full := smallPart(true, true, leafPart("k1", "v1", true), leafPart("k3", "", true))
	full.Pruned, full.Sum = true, root
	verified(t, "at the top", root, "k1", "k1", full)
	refused(t, "asked for", root, "k1", "k2", full)
	kid := leafPart("k1", "v1", true)
	kid.Pruned, kid.Sum = true, hashOf(leafPart("k1", "v1", true))
	verified(t, "in a kid", root, "k2", "k2\x00", smallPart(false, true, kid, prunedPart(leafPart("k3", "", true))), small()[2])
}

// P802: a part for no node is right, whatever else it has.
func TestP802VerifyOfNone(t *testing.T) {
	empty := sum("empty")
	for _, p := range []part{{}, {Level: -5}, {Level: 99, Sum: []byte{1}}, {Known: []bool{true}, Vals: [][]byte{{1}, {2}}}} {
		verified(t, "of the empty tree", empty, "", "z", p)
		verified(t, "of no stretch", empty, "z", "", p)
		refused(t, "of another", sum("x"), "", "z", p)
		root := made(t, small()).Root()
		refused(t, "of a tree that is not empty", root, "k4", "k5", p)
		off1, off3 := prunedPart(leafPart("k1", "v1", true)), prunedPart(leafPart("k3", "", true))
		over := smallPart(true, false, off1, off3)
		over.Kids[0] = p
		verified(t, "as a kid", root, "", "k0\x00", over, small()[0])
	}
	verified(t, "pruned", empty, "", "", part{Pruned: true, Sum: empty})
	refused(t, "pruned, asked for", empty, "", "z", part{Pruned: true, Sum: empty})
}

func TestP802Roots(t *testing.T) {
	x := made(t, small())
	other, _ := x.Put([]byte("k1"), []byte("another"))
	fewer, _ := x.Del([]byte("k3"))
	var none *tree.Tree
	p := proof.Build(x, []byte("k1"), []byte("k2"))
	verified(t, "its own", x.Root(), "k1", "k2", p, small()[1])
	for _, root := range [][]byte{other.Root(), fewer.Root(), none.Root(), nil, {}, x.Root()[:31], append(x.Root(), 0), make([]byte, 32)} {
		refused(t, fmt.Sprintf("root %x", root), root, "k1", "k2", p)
	}
}

// fault: one change of a part that is right, and whether it still is: its root is made anew, so that nothing but its rightness counts.
type fault struct {
	name   string
	change func(p *part)
	right  bool
}

// faults: of faultBase.
func faults() []fault {
	low := func(p *part) *part { return &p.Kids[0] }
	return []fault{
		{"as it is", func(p *part) {}, true},
		{"a Sum", func(p *part) { p.Sum = sum("x") }, true},
		{"Known too few", func(p *part) { p.Known = p.Known[:len(p.Known)-1] }, false},
		{"Known none", func(p *part) { p.Known = nil }, false},
		{"Known too many", func(p *part) { p.Known = append(p.Known, true) }, false},
		{"Vals too few", func(p *part) { p.Vals = p.Vals[:len(p.Vals)-1] }, false},
		{"Vals none", func(p *part) { p.Vals = nil }, false},
		{"Vals too many", func(p *part) { p.Vals = append(p.Vals, sum("x")) }, false},
		{"Kids too few", func(p *part) { p.Kids = p.Kids[:len(p.Kids)-1] }, false},
		{"Kids none", func(p *part) { p.Kids = nil }, false},
		{"Kids too many", func(p *part) { p.Kids = append(p.Kids, part{}) }, false},
		{"Keys none, one kid", func(p *part) { *p = part{Level: p.Level, Kids: p.Kids[:1]} }, false},
		{"Keys and Kids none", func(p *part) { p.Keys, p.Kids = nil, nil }, true},
		{"a kid's Known too few", func(p *part) { low(p).Known = low(p).Known[1:] }, false},
		{"a kid's Vals too many", func(p *part) { low(p).Vals = append(low(p).Vals, sum("x")) }, false},
		{"a kid's Kids too many", func(p *part) { low(p).Kids = append(low(p).Kids, part{}) }, false},
		{"a kid's Keys none, one kid", func(p *part) { *low(p) = part{Kids: []part{{}}} }, false},
		{"a kid for no node", func(p *part) { *low(p) = part{} }, true},
		{"Level 1 more", func(p *part) { p.Level++ }, false},
		{"Level 1 less", func(p *part) { p.Level-- }, false},
		{"Level beyond", func(p *part) { p.Level = math.MaxInt }, false},
		{"Level below 0", func(p *part) { p.Level = math.MinInt }, false},
		{"a kid's Level 1 more", func(p *part) { low(p).Level++ }, false},
		{"a kid's Level 1 less", func(p *part) { low(p).Level-- }, false},
		{"a kid of the part's own level", func(p *part) { *low(p) = dark(keyBelow(2, p.Keys[0])) }, false},
		{"a kid of a greater level", func(p *part) { *low(p) = dark(keyBelow(3, p.Keys[0])) }, false},
		{"the last kid of the part's own level", func(p *part) { *last(p) = dark(keyAbove(2, p.Keys[1])) }, false},
		{"the last kid of a greater level", func(p *part) { *last(p) = dark(keyAbove(3, p.Keys[1])) }, false},
		{"a kid's last kid of the kid's own level", func(p *part) { *last(low(p)) = dark(keyAbove(1, low(p).Keys[0])) }, false},
		{"a kid of a level far less", func(p *part) { *low(p) = dark(keyBelow(0, p.Keys[0])) }, true},
		{"a kid's key is the one above", func(p *part) { *low(p) = dark(p.Keys[0]) }, false},
		{"a kid's key is above", func(p *part) { *low(p) = dark(keyAbove(1, p.Keys[0])) }, false},
		{"the last kid's key is below", func(p *part) { *last(p) = dark(keyBelow(1, p.Keys[0])) }, false},
		{"the last kid's key is the last key", func(p *part) { *last(p) = dark(p.Keys[len(p.Keys)-1]) }, false},
		{"the last kid's key is above", func(p *part) { *last(p) = dark(keyAbove(1, p.Keys[len(p.Keys)-1])) }, true},
		{"a kid's kid's key is beyond the part's", func(p *part) { *last(low(p)) = dark(keyAbove(0, p.Keys[0])) }, false},
		{"keys that fall", func(p *part) { slices.Reverse(p.Keys) }, false},
		{"two keys the same", func(p *part) { p.Keys[1] = p.Keys[0] }, false},
		{"a key of another level", func(p *part) { p.Keys[1] = keyAbove(1, p.Keys[0]) }, false},
		{"an empty key", func(p *part) { *p = dark(nil) }, false},
		{"a key of 1 byte", func(p *part) { *p = dark(longKey(0, 1)) }, true},
		{"a key of 256 bytes", func(p *part) { *p = dark(longKey(2, 256)) }, true},
		{"a key of 257 bytes", func(p *part) { *p = dark(longKey(2, 257)) }, false},
		{"a sum of 31 bytes", func(p *part) { p.Vals[0] = p.Vals[0][:31] }, false},
		{"a sum of 33 bytes", func(p *part) { p.Vals[0] = append(bytes.Clone(p.Vals[0]), 0) }, false},
		{"an empty sum", func(p *part) { p.Vals[0] = nil }, false},
		{"a kid's sum of 31 bytes", func(p *part) { low(p).Vals[0] = low(p).Vals[0][:31] }, false},
		{"known and need not be", func(p *part) { p.Known[0] = true }, false},
		{"a kid's known and need not be", func(p *part) { low(p).Known[0] = true }, false},
		{"a kid pruned, that must not be", func(p *part) { p.Kids[1] = prunedPart(p.Kids[1]) }, false},
		{"a kid pruned, that may be", func(p *part) { *low(p) = prunedPart(*low(p)) }, true},
		{"a kid pruned, with an empty Sum", func(p *part) { *low(p) = part{Pruned: true} }, true},
		{"a kid pruned, with a Sum of 33 bytes", func(p *part) { *low(p) = part{Pruned: true, Sum: make([]byte, 33)} }, true},
		{"a kid pruned, with more than Sum", func(p *part) { low(p).Pruned, low(p).Sum = true, []byte{1} }, true},
		{"the top pruned", func(p *part) { *p = prunedPart(*p) }, false},
	}
}

func last(p *part) *part {
	return &p.Kids[len(p.Kids)-1]
}

// dark: one key, whose value is not known.
func dark(key []byte) part {
	return part{Level: levelOf(key), Keys: [][]byte{key}, Known: []bool{false}, Vals: [][]byte{sum("dark")}, Kids: []part{{}, {}}}
}

// keyIn: of that level, between the two.
func keyIn(level int, low, high []byte) []byte {
	for i := 0; ; i++ {
		if key := fmt.Appendf(nil, "%s-%d", low, i); levelOf(key) == level && bytes.Compare(key, high) < 0 {
			return key
		}
	}
}

func keyBelow(level int, bound []byte) []byte {
	return keyIn(level, []byte("b"), bound)
}

func keyAbove(level int, bound []byte) []byte {
	return keyIn(level, bound, []byte("z"))
}

// faultBase: a part of two keys of level 2, whose first kid, of level 1, has kids of its own; asked is a stretch between the two keys, with a key that is known.
func faultBase() (p part, lo, hi []byte) {
	keys := keysAt(2, 2)
	kid := dark(keyBelow(1, keys[0]))
	kid.Kids[0] = dark(keyIn(0, []byte("a"), kid.Keys[0]))
	middle := dark(keyIn(1, keys[0], keys[1]))
	middle.Known[0], middle.Vals[0] = true, []byte("known")
	p = part{Level: 2, Keys: keys, Known: []bool{false, false}, Vals: [][]byte{sum("0"), sum("1")}, Kids: []part{kid, middle, {}}}
	return p, middle.Keys[0], append(bytes.Clone(middle.Keys[0]), 0)
}

// P802: each way in which a part is right or not, at the top and beneath it.
func TestP802Faults(t *testing.T) {
	for _, x := range faults() {
		base, lo, hi := faultBase()
		p := clone(base)
		x.change(&p)
		if right(p, frameOf(lo, hi), 65) != x.right {
			t.Fatalf("%s: the words say otherwise", x.name)
		}
		list, kind := proof.Verify(hashOf(p), lo, hi, p)
		if !x.right {
			is(t, x.name, kind, api.BadProof)
			is(t, x.name+": items", len(list), 0)
			continue
		}
		is(t, x.name, kind, api.OK)
		sameItems(t, x.name, list, itemsOf(p))
	}
}

// P802: two faults at once are one kind still, and do not make up for one another.
func TestP802TwoFaults(t *testing.T) {
	for _, x := range faults() {
		for _, y := range faults() {
			base, lo, hi := faultBase()
			p := clone(base)
			x.change(&p)
			if len(p.Keys) != 2 || len(p.Known) < 2 || len(p.Vals) < 2 || len(p.Kids) < 3 || len(p.Kids[0].Known) == 0 || len(p.Kids[0].Vals) == 0 || len(p.Kids[0].Kids) == 0 || len(p.Vals[0]) < 31 || len(p.Kids[0].Vals[0]) < 31 {
				continue // what the second one changes is not there any more
			}
			y.change(&p)
			want := api.OK
			if !right(p, frameOf(lo, hi), 65) {
				want = api.BadProof
			}
			_, kind := proof.Verify(hashOf(p), lo, hi, p)
			is(t, x.name+", "+y.name, kind, want)
		}
	}
}

// P802: values of keys that are asked for.
func TestP802KnownValues(t *testing.T) {
	key := []byte("k1")
	for _, c := range []struct {
		name  string
		known bool
		value []byte
		want  api.Kind
	}{
		{"empty", true, nil, api.OK},
		{"1024 bytes", true, make([]byte, 1024), api.OK},
		{"1025 bytes", true, make([]byte, 1025), api.BadProof},
		{"not known", false, sum("v"), api.BadProof},
		{"of 32 bytes", true, sum("v"), api.OK},
	} {
		p := part{Keys: [][]byte{key}, Known: []bool{c.known}, Vals: [][]byte{c.value}, Kids: []part{{}, {}}}
		list, kind := proof.Verify(hashOf(p), key, []byte("k1\x00"), p)
		is(t, c.name, kind, c.want)
		is(t, c.name+": items", len(list) == 1, c.want == api.OK)
	}
}

func TestP802VerifyChangesNothing(t *testing.T) {
	items := itemsFor(mixed())
	x := made(t, items)
	lo, hi, root := roomy([]byte("k2"), 7, 7), roomy([]byte("k5"), 7, 7), roomy(x.Root(), 7, 7)
	want := between(items, lo, hi)
	p := clone(proof.Build(x, lo, hi))
	before := dump(p)
	list, kind := proof.Verify(root, lo, hi, p)
	is(t, "Verify", kind, api.OK)
	is(t, "the part", dump(p), before)
	same(t, "lo", lo[:4], []byte("k2\x07\x07"))
	same(t, "hi", hi[:4], []byte("k5\x07\x07"))
	same(t, "root", root[:34], append(x.Root(), 7, 7))
	again, _ := proof.Verify(root, lo, hi, p)
	for _, item := range again {
		spoil(item.Key)
		spoil(item.Value)
	}
	clear(again[:cap(again)])
	is(t, "the part behind it", dump(p), before)
	spoilPart(p)
	spoil(lo)
	spoil(hi)
	spoil(root)
	sameItems(t, "items that are kept", list, want)
	for i := range list {
		spoil(list[i].Key)
		same(t, "a value beside its key", list[i].Value, want[i].Value)
		spoil(list[i].Value)
		if i+1 < len(list) {
			sameItems(t, "items beside", list[i+1:], want[i+1:])
		}
	}
}
