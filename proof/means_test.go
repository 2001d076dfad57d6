package proof_test

import (
	"bytes"
	"crypto/sha256"
	"encoding/binary"
	"encoding/hex"
	"fmt"
	"slices"
	"strings"
	"testing"

	"bulwark/api"
	"bulwark/proof"
	"bulwark/tree"
)

type part = proof.Part

func is[T comparable](t *testing.T, what string, got, want T) {
	t.Helper()
	if got != want {
		t.Errorf("%s: %#v, not %#v", what, got, want)
	}
}

func same(t *testing.T, what string, got, want []byte) {
	t.Helper()
	if !bytes.Equal(got, want) {
		t.Errorf("%s: %v, not %v", what, got, want)
	}
}

// alike: in all, but that an empty list and none are the same.
func alike(a, b part) bool {
	return a.Pruned == b.Pruned && bytes.Equal(a.Sum, b.Sum) && a.Level == b.Level &&
		slices.EqualFunc(a.Keys, b.Keys, bytes.Equal) && slices.Equal(a.Known, b.Known) &&
		slices.EqualFunc(a.Vals, b.Vals, bytes.Equal) && slices.EqualFunc(a.Kids, b.Kids, alike)
}

func samePart(t *testing.T, what string, got, want part) {
	t.Helper()
	if !alike(got, want) {
		t.Errorf("%s: %s, not %s", what, dump(got), dump(want))
	}
}

func sameItems(t *testing.T, what string, got, want []api.Item) {
	t.Helper()
	equal := func(a, b api.Item) bool { return bytes.Equal(a.Key, b.Key) && bytes.Equal(a.Value, b.Value) }
	if !slices.EqualFunc(got, want, equal) {
		t.Errorf("%s: %q, not %q", what, got, want)
	}
}

// dump: all of it, its spare room too.
func dump(p part) string {
	kids := ""
	for _, kid := range p.Kids[:cap(p.Kids)] {
		kids += dump(kid)
	}
	lists := func(l [][]byte) string {
		out := ""
		for _, x := range l[:cap(l)] {
			out += fmt.Sprintf("%d:%q ", len(x), x[:cap(x)])
		}
		return out
	}
	return fmt.Sprintf("{%v %d:%q %d keys %d:%s known %d:%v vals %d:%s kids %d:%s}", p.Pruned, len(p.Sum), p.Sum[:cap(p.Sum)], p.Level,
		len(p.Keys), lists(p.Keys), len(p.Known), p.Known[:cap(p.Known)], len(p.Vals), lists(p.Vals), len(p.Kids), kids)
}

// roomy: the list, with room behind it that must stay as it is.
func roomy[T any](l []T, room ...T) []T {
	return append(slices.Clone(l), room...)[:len(l)]
}

func roomyLists(l [][]byte) [][]byte {
	var out [][]byte
	for _, x := range l {
		out = append(out, roomy(x, 7, 7, 7))
	}
	return roomy(out, []byte("room"), []byte("room"))
}

// clone: with room behind every list, and nothing shared.
func clone(p part) part {
	p.Sum = roomy(p.Sum, 7, 7, 7)
	p.Keys, p.Vals = roomyLists(p.Keys), roomyLists(p.Vals)
	p.Known = roomy(p.Known, true, true)
	var kids []part
	for _, kid := range p.Kids {
		kids = append(kids, clone(kid))
	}
	p.Kids = roomy(kids, part{Level: 77}, part{Level: 77})
	return p
}

func spoil(b []byte) {
	b = b[:cap(b)]
	for i := range b {
		b[i] = 99
	}
}

func spoilLists(l [][]byte) {
	for _, x := range l[:cap(l)] {
		spoil(x)
	}
	clear(l[:cap(l)])
}

// spoilPart: all that others could see of it.
func spoilPart(p part) {
	spoil(p.Sum)
	spoilLists(p.Keys)
	spoilLists(p.Vals)
	for i := range p.Known[:cap(p.Known)] {
		p.Known[:cap(p.Known)][i] = i%2 == 0
	}
	for _, kid := range p.Kids[:cap(p.Kids)] {
		spoilPart(kid)
	}
	clear(p.Kids[:cap(p.Kids)])
}

// within: the part and all beneath it.
func within(p *part) []*part {
	out := []*part{p}
	for i := range p.Kids {
		out = append(out, within(&p.Kids[i])...)
	}
	return out
}

// number, text, truth, sum: of layers 1 and 2, by the library's means alone.
func number(n uint64) []byte {
	return binary.AppendUvarint(nil, n)
}

func text[T string | []byte](x T) []byte {
	return append(number(uint64(len(x))), x...)
}

func truth(is bool) []byte {
	if is {
		return []byte{1}
	}
	return []byte{0}
}

func sum[T string | []byte](x T) []byte {
	s := sha256.Sum256([]byte(x))
	return s[:]
}

func levelOf(key []byte) int {
	digits := hex.EncodeToString(sum(slices.Concat(text("level"), number(1), text(key))))
	return len(digits) - len(strings.TrimLeft(digits, "0"))
}

func get[T any](l []T, i int) T {
	var zero T
	if i < len(l) {
		return l[i]
	}
	return zero
}

// hashOf: as the chapter's words say, of any part.
func hashOf(p part) []byte {
	if p.Pruned {
		return p.Sum
	}
	if len(p.Keys)+len(p.Kids) == 0 {
		return sum("empty")
	}
	var kids [][]byte
	for _, kid := range p.Kids {
		kids = append(kids, hashOf(kid))
	}
	form := slices.Concat(text("node"), number(uint64(p.Level)), number(uint64(len(p.Keys))), text(get(kids, 0)))
	for i, key := range p.Keys {
		value := get(p.Vals, i)
		if i < len(p.Vals) && get(p.Known, i) {
			value = sum(value)
		}
		form = slices.Concat(form, text(key), text(value), text(get(kids, i+1)))
	}
	return sum(form)
}

// formOf: the bytes as the chapter tells them.
func formOf(p part) []byte {
	if p.Pruned {
		return append([]byte{1}, text(p.Sum)...)
	}
	form := slices.Concat([]byte{0}, number(uint64(p.Level)), number(uint64(len(p.Keys))))
	for i, key := range p.Keys {
		form = append(append(append(form, text(key)...), truth(p.Known[i])...), text(p.Vals[i])...)
	}
	if len(p.Keys) > 0 {
		for _, kid := range p.Kids {
			form = append(form, formOf(kid)...)
		}
	}
	return form
}

// frame: the two bounds, where there are any, and what is asked for.
type frame struct {
	low, high *string
	lo, hi    string
}

func frameOf(lo, hi []byte) frame {
	return frame{lo: string(lo), hi: string(hi)}
}

func (f frame) about(keys [][]byte, kid int) frame {
	if kid > 0 {
		low := string(keys[kid-1])
		f.low = &low
	}
	if kid < len(keys) {
		high := string(keys[kid])
		f.high = &high
	}
	return f
}

func (f frame) asked(key []byte) bool {
	return string(key) >= f.lo && string(key) < f.hi
}

func (f frame) holds(key []byte) bool {
	return (f.low == nil || *f.low < string(key)) && (f.high == nil || string(key) < *f.high)
}

func (f frame) prunes() bool {
	return f.high != nil && *f.high <= f.lo || f.low != nil && *f.low+"\x00" >= f.hi || f.lo >= f.hi
}

// buildOf: the part for items that rise, as the words say.
func buildOf(rising []api.Item, f frame) part {
	if len(rising) == 0 {
		return part{}
	}
	p := part{}
	for _, x := range rising {
		p.Level = max(p.Level, levelOf(x.Key))
	}
	kids := [][]api.Item{nil}
	for _, x := range rising {
		if levelOf(x.Key) < p.Level {
			kids[len(kids)-1] = append(kids[len(kids)-1], x)
			continue
		}
		kids = append(kids, nil)
		p.Keys = append(p.Keys, x.Key)
		p.Known = append(p.Known, f.asked(x.Key))
		value := x.Value
		if !f.asked(x.Key) {
			value = sum(value)
		}
		p.Vals = append(p.Vals, value)
	}
	for i, kid := range kids {
		p.Kids = append(p.Kids, buildOf(kid, f.about(p.Keys, i)))
	}
	if f.prunes() {
		return part{Pruned: true, Sum: hashOf(p)}
	}
	return p
}

// right: as the words say; above is the level of the part above, or 65.
func right(p part, f frame, above int) bool {
	if p.Pruned {
		return f.prunes()
	}
	if len(p.Keys)+len(p.Kids) == 0 {
		return true
	}
	if len(p.Keys) == 0 || len(p.Known) != len(p.Keys) || len(p.Vals) != len(p.Keys) || len(p.Kids) != len(p.Keys)+1 || p.Level >= above {
		return false
	}
	for i, key := range p.Keys {
		size := len(p.Vals[i])
		rises := i == 0 || bytes.Compare(p.Keys[i-1], key) < 0
		value := p.Known[i] == f.asked(key) && (p.Known[i] && size <= 1024 || !p.Known[i] && size == 32)
		if !rises || !value || !f.holds(key) || len(key) < 1 || len(key) > 256 || levelOf(key) != p.Level {
			return false
		}
	}
	for i, kid := range p.Kids {
		if !right(kid, f.about(p.Keys, i), p.Level) {
			return false
		}
	}
	return true
}

// itemsOf: of a right part.
func itemsOf(p part) []api.Item {
	if p.Pruned || len(p.Keys) == 0 {
		return nil
	}
	var out []api.Item
	for i, kid := range p.Kids {
		out = append(out, itemsOf(kid)...)
		if i < len(p.Keys) && p.Known[i] {
			out = append(out, api.Item{Key: p.Keys[i], Value: p.Vals[i]})
		}
	}
	return out
}

// keysAt: of just that level, the first ones of k0, k1, k2 and so on, rising.
func keysAt(level, count int) [][]byte {
	var out [][]byte
	for i := 0; len(out) < count; i++ {
		if key := fmt.Appendf(nil, "k%d", i); levelOf(key) == level {
			out = append(out, key)
		}
	}
	slices.SortFunc(out, bytes.Compare)
	return out
}

// longKey: of just that level and size.
func longKey(level, size int) []byte {
	for i := 0; ; i++ {
		key := fmt.Appendf(nil, "%0*d", size, i)
		if levelOf(key) == level {
			return key
		}
	}
}

// mixed: keys of several levels, so that nodes have kids, and some kids are none.
func mixed() [][]byte {
	return slices.Concat(keysAt(0, 9), keysAt(1, 6), keysAt(2, 4), keysAt(3, 2))
}

func itemsFor(keys [][]byte) []api.Item {
	keys = slices.Clone(keys)
	slices.SortFunc(keys, bytes.Compare)
	var out []api.Item
	for i, key := range keys {
		out = append(out, api.Item{Key: key, Value: fmt.Appendf(nil, "value %d", i)})
	}
	return out
}

func between(l []api.Item, lo, hi []byte) []api.Item {
	return slices.DeleteFunc(slices.Clone(l), func(x api.Item) bool { return !frameOf(lo, hi).asked(x.Key) })
}

func made(t testing.TB, l []api.Item) *tree.Tree {
	t.Helper()
	x, wrong := tree.Make(l)
	if wrong != api.OK {
		t.Fatalf("Make: %d", wrong)
	}
	return x
}

// beyond: above every key.
func beyond() []byte {
	return bytes.Repeat([]byte{255}, 257)
}

// edges: bounds at, just behind and between keys, and beside all of them.
func edges(keys [][]byte) [][]byte {
	out := [][]byte{nil, {}, {0}, []byte("k"), []byte("l"), beyond()}
	for _, key := range keys {
		behind := append(bytes.Clone(key), 0)
		out = append(out, key, behind, append(bytes.Clone(behind), 0), append(bytes.Clone(key), 'x'))
		if last := key[len(key)-1]; last > 0 {
			ahead := bytes.Clone(key)
			ahead[len(key)-1] = last - 1
			out = append(out, append(ahead, 255))
		}
	}
	return out
}
