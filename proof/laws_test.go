package proof_test

import (
	"bytes"
	"fmt"
	"math/rand"
	"slices"
	"testing"

	"bulwark/api"
	"bulwark/proof"
	"bulwark/tree"
)

// P804: what is built verifies and tells the tree's items, also when it went as bytes.
func TestP804BuiltIsTaken(t *testing.T) {
	for _, keys := range [][][]byte{nil, keysAt(0, 1), keysAt(3, 2), slices.Concat(keysAt(0, 5), keysAt(2, 1)), mixed()} {
		items := itemsFor(keys)
		x := made(t, items)
		all := edges(keys)
		for _, lo := range all {
			for _, hi := range all {
				what := fmt.Sprintf("of %d keys, %q to %q", len(keys), lo, hi)
				p := proof.Build(x, lo, hi)
				list, kind := proof.Verify(x.Root(), lo, hi, p)
				is(t, what, kind, api.OK)
				sameItems(t, what, list, between(items, lo, hi))
				told, _ := x.Items(lo, hi, len(items))
				sameItems(t, what+", as the tree has it", list, told)
			}
		}
	}
}

// law: Verify answers as the words say, and what it tells are the tree's items.
func law(t *testing.T, what string, root []byte, items []api.Item, lo, hi []byte, p part) api.Kind {
	t.Helper()
	want := api.BadProof
	if right(p, frameOf(lo, hi), 65) && bytes.Equal(hashOf(p), root) {
		want = api.OK
	}
	list, kind := proof.Verify(root, lo, hi, p)
	is(t, what, kind, want)
	if kind == api.OK {
		sameItems(t, what, list, between(items, lo, hi))
	} else {
		is(t, what+": items", len(list), 0)
	}
	return kind
}

// P804: a part for one stretch, asked for another; of one tree, asked of another.
func TestP804AnotherStretch(t *testing.T) {
	keys := slices.Concat(keysAt(0, 4), keysAt(1, 2), keysAt(2, 1))
	items := itemsFor(keys)
	x := made(t, items)
	y := made(t, itemsFor(keys[1:]))
	all := edges(keysAt(1, 1))
	taken := 0
	for _, from := range all {
		for _, to := range all {
			p, other := proof.Build(x, from, to), proof.Build(y, from, to)
			for _, lo := range all {
				for _, hi := range all {
					what := fmt.Sprintf("%q to %q, asked for %q to %q", from, to, lo, hi)
					if law(t, what, x.Root(), items, lo, hi, p) == api.OK {
						taken++
					}
					is(t, "of another tree: "+what, law(t, what, x.Root(), items, lo, hi, other), api.BadProof)
				}
			}
		}
	}
	if taken < len(all)*len(all) {
		t.Errorf("only %d were taken", taken)
	}
}

// changes: of one part among many.
func changes() []func(p *part) {
	cut := func(l [][]byte) [][]byte { return l[:max(len(l)-1, 0)] }
	return []func(p *part){
		func(p *part) { p.Pruned = !p.Pruned },
		func(p *part) { *p = part{Pruned: true, Sum: hashOf(*p)} },
		func(p *part) { p.Pruned, p.Sum = true, hashOf(*p) },
		func(p *part) { *p = part{} },
		func(p *part) { p.Keys, p.Kids = nil, nil },
		func(p *part) { p.Sum = append(bytes.Clone(p.Sum), 1) },
		func(p *part) { p.Sum = cutByte(p.Sum) },
		func(p *part) { p.Level++ },
		func(p *part) { p.Level-- },
		func(p *part) { p.Keys = cut(p.Keys) },
		func(p *part) { p.Vals = cut(p.Vals) },
		func(p *part) { p.Known = p.Known[:max(len(p.Known)-1, 0)] },
		func(p *part) { p.Kids = p.Kids[:max(len(p.Kids)-1, 0)] },
		func(p *part) { p.Keys = append(p.Keys, []byte("zz")) },
		func(p *part) { p.Vals = append(p.Vals, []byte("zz")) },
		func(p *part) { p.Known = append(p.Known, true) },
		func(p *part) { p.Kids = append(p.Kids, part{}) },
		func(p *part) { slices.Reverse(p.Keys) },
		func(p *part) { slices.Reverse(p.Vals) },
		func(p *part) { slices.Reverse(p.Kids) },
		func(p *part) { *p = withoutKey(*p) },
		func(p *part) { *p = withKey(*p) },
		func(p *part) { *p = part{Level: p.Level, Kids: []part{*p}} },
		func(p *part) { *p = part{Level: p.Level + 1, Kids: []part{*p, *p}} },
	}
}

func cutByte(x []byte) []byte {
	return x[:max(len(x)-1, 0)]
}

// withoutKey: its last one, with the value and kid that belong to it.
func withoutKey(p part) part {
	if last := len(p.Keys) - 1; last >= 0 {
		p.Keys, p.Known, p.Vals, p.Kids = p.Keys[:last], p.Known[:last], p.Vals[:last], p.Kids[:last+1]
	}
	if len(p.Keys) == 0 {
		p.Kids = nil
	}
	return p
}

// withKey: one more of its level, that stands behind the others, with a value that is known.
func withKey(p part) part {
	if len(p.Keys) > 0 {
		p.Keys = append(p.Keys, keyIn(p.Level, p.Keys[len(p.Keys)-1], []byte("z")))
		p.Known, p.Vals, p.Kids = append(p.Known, true), append(p.Vals, []byte("made up")), append(p.Kids, part{})
	}
	return p
}

// eachValue: of each key and value of one part.
func eachValue() []func(p *part, i int) {
	return []func(p *part, i int){
		func(p *part, i int) { p.Known[i] = !p.Known[i] },
		func(p *part, i int) { p.Known[i], p.Vals[i] = false, sum(p.Vals[i]) },
		func(p *part, i int) { p.Known[i], p.Vals[i] = true, []byte("made up") },
		func(p *part, i int) { p.Vals[i] = append([]byte{1}, p.Vals[i]...) },
		func(p *part, i int) { p.Vals[i] = cutByte(p.Vals[i]) },
		func(p *part, i int) { p.Vals[i] = nil },
		func(p *part, i int) { p.Keys[i] = append(bytes.Clone(p.Keys[i]), 0) },
		func(p *part, i int) { p.Keys[i] = cutByte(p.Keys[i]) },
		func(p *part, i int) { p.Keys[i] = nil },
		func(p *part, i int) { p.Kids[i], p.Kids[i+1] = p.Kids[i+1], p.Kids[i] },
		func(p *part, i int) { p.Kids[i] = part{} },
		func(p *part, i int) { p.Kids[i] = part{Pruned: true, Sum: hashOf(p.Kids[i])} },
	}
}

// mutants: the part with each change at each place.
func mutants(p part) []part {
	var out []part
	for i := range within(&p) {
		for _, change := range changes() {
			q := clone(p)
			change(within(&q)[i])
			out = append(out, q)
		}
		for j := range within(&p)[i].Keys {
			for _, change := range eachValue() {
				q := clone(p)
				change(within(&q)[i], j)
				out = append(out, q)
			}
		}
	}
	return out
}

// P804: whatever is made of a part, what Verify tells for the tree's root are its items.
func TestP804Mutants(t *testing.T) {
	items := itemsFor(slices.Concat(keysAt(0, 4), keysAt(1, 2), keysAt(2, 1)))
	x := made(t, items)
	count := map[api.Kind]int{}
	for _, c := range [][2]string{{"", "z"}, {"k1", "k2"}, {"k2", "k2\x00"}, {"k0", "k0"}, {"a", "b"}, {"k4", "z"}} {
		lo, hi := []byte(c[0]), []byte(c[1])
		for i, p := range mutants(proof.Build(x, lo, hi)) {
			what := fmt.Sprintf("mutant %d of %q", i, c)
			count[law(t, what, x.Root(), items, lo, hi, p)]++
			same(t, what+": Hash", proof.Hash(p), hashOf(p))
			law(t, what+", its own root", hashOf(p), ownItems(p, lo, hi), lo, hi, p)
		}
	}
	if count[api.OK] < 30 || count[api.BadProof] < 300 {
		t.Errorf("only %v", count)
	}
}

// ownItems: of a part that is right for that stretch; of others nothing is asked.
func ownItems(p part, lo, hi []byte) []api.Item {
	if right(p, frameOf(lo, hi), 65) {
		return itemsOf(p)
	}
	return nil
}

// P804: trees of any keys, whose parts go as bytes; the source's seed is fixed, so that every run is alike.
func TestP804AnyTrees(t *testing.T) {
	source := rand.New(rand.NewSource(804))
	word := func() []byte {
		b := make([]byte, 1+source.Intn(3))
		for i := range b {
			b[i] = byte(source.Intn(4)) * 85
		}
		return b
	}
	for range 400 {
		store := map[string]string{}
		var x *tree.Tree
		for range source.Intn(80) {
			key, value := word(), word()
			store[string(key)] = string(value)
			x, _ = x.Put(key, value)
		}
		var items []api.Item
		for key, value := range store {
			items = append(items, api.Item{Key: []byte(key), Value: []byte(value)})
		}
		slices.SortFunc(items, func(a, b api.Item) int { return bytes.Compare(a.Key, b.Key) })
		for range 20 {
			lo, hi := word(), word()
			p := proof.Build(x, lo, hi)
			samePart(t, "Build", p, buildOf(items, frameOf(lo, hi)))
			roundTrip(t, "as bytes", p)
			is(t, "Verify", law(t, "Verify", x.Root(), items, lo, hi, p), api.OK)
			law(t, "asked for others", x.Root(), items, word(), word(), p)
		}
	}
}

// lawOfBytes: of any bytes: what is read is put as it was, and what is taken for the root is the tree's.
func lawOfBytes(t *testing.T, root []byte, items []api.Item, b []byte) {
	t.Helper()
	p, kind := proof.Read(b)
	if kind != api.OK {
		samePart(t, "beside a kind", p, part{})
		return
	}
	if len(b) <= api.MaxBytes {
		same(t, "Bytes", bytesOf(t, "what was read", p), b)
	}
	for _, c := range [][2]string{{"k1", "k2"}, {"", "z"}, {"z", ""}} {
		law(t, "of bytes", root, items, []byte(c[0]), []byte(c[1]), p)
	}
}

func TestP804ChangedBytes(t *testing.T) {
	items := itemsFor(slices.Concat(keysAt(0, 3), keysAt(1, 2)))
	x := made(t, items)
	for _, p := range []part{proof.Build(x, []byte("k1"), []byte("k2")), proof.Build(x, nil, []byte("z")), proof.Build(x, nil, nil)} {
		form := bytesOf(t, "Bytes", p)
		lawOfBytes(t, x.Root(), items, form)
		for i := range form {
			for _, y := range []byte{0, 1, 2, 32, 33, 64, 65, 127, 128, 255, form[i] + 1, form[i] - 1} {
				changed := bytes.Clone(form)
				changed[i] = y
				lawOfBytes(t, x.Root(), items, changed)
			}
			lawOfBytes(t, x.Root(), items, slices.Delete(bytes.Clone(form), i, i+1))
			lawOfBytes(t, x.Root(), items, slices.Insert(bytes.Clone(form), i, 0))
		}
	}
}

func FuzzP804(f *testing.F) {
	items := itemsFor(slices.Concat(keysAt(0, 3), keysAt(1, 2)))
	x := made(f, items)
	for _, hi := range []string{"k2", "z", ""} {
		b, _ := proof.Bytes(proof.Build(x, []byte("k1"), []byte(hi)))
		f.Add(b)
	}
	f.Fuzz(func(t *testing.T, b []byte) {
		lawOfBytes(t, x.Root(), items, b)
	})
}
