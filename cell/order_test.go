package cell_test

import (
	"bytes"
	"math/rand"
	"slices"
	"strings"
	"testing"

	"bulwark/api"
	"bulwark/cell"
)

// rising: keys in the order of the chapter, wrong ones among them, no two the same.
func rising() []api.Key {
	return []api.Key{
		{Time: last},
		{},
		key("", "", "q", 0),
		key("", "f", "", 0),
		key("\x00", "f", "q", 3),
		key("\x00\x00", "f", "q", 3),
		key("\x01", "f", "q", 3),
		key("a", "", "", 0),
		key("a", "b", "", last),
		key("a", "b", "", 2),
		key("a", "b", "", 1),
		key("a", "b", "", 0),
		key("a", "b", "\x00", last),
		key("a", "b", "\x00", 0),
		key("a", "b", "a", 0),
		key("a", "b", "\xff", 0),
		key("a", "b\x00", "", 9),
		key("a", "b\x00", "", 0),
		key("a", "ba", "", 0),
		key("a", "c", "", last),
		key("a\x00", "b", "", 5),
		key("a\x00\x00", "b", "", 5),
		key("a\x01", "b", "", 5),
		key("ab", "a", "a", last),
		key("b", "a", "", 0),
		key("n", "a", "", 0),
		key(long(32), "a", "", 0),
		key(long(33), "a", "", last),
		key(long(33), "a", "", 0),
		key("o", "a", "", 0),
		key("\xc3\xa9", "a", "", 0),
		key("\xfe", "z", "z", 0),
		key("\xff", "a", "", 0),
		key("\xff", long(33), "", 0),
		key("\xff\x00", "a", "", 0),
		key(strings.Repeat("\xff", 40), "a", "", 0),
	}
}

func sign(less, equal bool) int {
	if equal {
		return 0
	}
	if less {
		return -1
	}
	return 1
}

func TestP403Cmp(t *testing.T) {
	list := rising()
	for i, a := range list {
		for j, b := range list {
			if got, want := cell.Cmp(a, b), sign(i < j, i == j); got != want {
				t.Errorf("Cmp of %#v, %#v: %d, not %d", a, b, got, want)
			}
		}
	}
}

func TestP403Column(t *testing.T) {
	list := append(rising(), keys()...)
	for _, a := range list {
		for _, b := range list {
			want := a.Row == b.Row && a.Family == b.Family && a.Qual == b.Qual
			if got := cell.Column(a, b); got != want {
				t.Errorf("Column of %#v, %#v: %v", a, b, got)
			}
		}
	}
	base := key("r", "f", "q", 1)
	is(t, "itself", cell.Column(base, base), true)
	is(t, "another time", cell.Column(base, key("r", "f", "q", last)), true)
	is(t, "another row", cell.Column(base, key("s", "f", "q", 1)), false)
	is(t, "another family", cell.Column(base, key("r", "g", "q", 1)), false)
	is(t, "another qual", cell.Column(base, key("r", "f", "", 1)), false)
	is(t, "cut elsewhere", cell.Column(key("ab", "c", "d", 1), key("a", "bc", "d", 1)), false)
	is(t, "of nothing", cell.Column(api.Key{}, api.Key{Time: 5}), true)
	is(t, "of wrong keys", cell.Column(key(long(33), "", long(40), 1), key(long(33), "", long(40), 2)), true)
}

// within: a key's bytes are not below lo, and below hi.
func within(b, lo, hi []byte) bool {
	return bytes.Compare(b, lo) >= 0 && bytes.Compare(b, hi) < 0
}

func rows(t *testing.T, from, to string) (lo, hi []byte) {
	t.Helper()
	lo, hi, kind := cell.Rows(from, to)
	if kind != api.OK {
		t.Fatalf("Rows of %q, %q: %d", from, to, kind)
	}
	return lo, hi
}

// P404: each name as from, as to and as a row, an empty from and an empty to too; from is above to in half of the cases.
func TestP404Rows(t *testing.T) {
	bounds := append(names(), "")
	for _, from := range bounds {
		for _, to := range bounds {
			lo, hi := rows(t, from, to)
			for i, row := range names() {
				k := key(row, names()[len(names())-1-i], "\xff", times()[i%len(times())])
				want := row >= from && (to == "" || row < to)
				if within(bytesOf(t, k), lo, hi) != want {
					t.Errorf("Rows of %q, %q: %v, %v: row %q: %v", from, to, lo, hi, row, !want)
				}
			}
		}
	}
}

// P404: the least and the greatest bytes that keys of a row have.
func TestP404EdgesOfARow(t *testing.T) {
	for _, row := range names() {
		lo, hi := rows(t, row, "")
		_, end := rows(t, "", row)
		for _, k := range []api.Key{key(row, "\x00", "", last), key(row, strings.Repeat("\xff", 32), strings.Repeat("\xff", 32), 0)} {
			b := bytesOf(t, k)
			is(t, "from its row on", within(b, lo, hi), true)
			is(t, "ahead of its row", within(b, nil, end), false)
		}
	}
}

func TestP404EmptyTo(t *testing.T) {
	for _, from := range append(names(), "") {
		_, hi := rows(t, from, "")
		same(t, "hi", hi, bytes.Repeat([]byte{255}, 33))
	}
	lo, hi := rows(t, "", "")
	for _, k := range keys() {
		is(t, "all keys", within(bytesOf(t, k), lo, hi), true)
	}
}

func TestP404NoRows(t *testing.T) {
	for _, c := range [][2]string{{"b", "a"}, {"a", "a"}, {"ab", "a"}, {"a\x00", "a"}, {"\xff", "\x00"}, {strings.Repeat("\xff", 32), strings.Repeat("\xff", 32)}} {
		lo, hi := rows(t, c[0], c[1])
		for _, k := range append(keys(), key(c[0], "f", "", 1), key(c[1], "f", "", 1)) {
			is(t, "no keys", within(bytesOf(t, k), lo, hi), false)
		}
	}
}

func TestP404Wrong(t *testing.T) {
	check := func(from, to string) {
		t.Helper()
		lo, hi, kind := cell.Rows(from, to)
		is(t, "kind", kind, api.BadKey)
		is(t, "lo and hi", len(lo)+len(hi), 0)
	}
	for _, wrong := range wrongNames() {
		check(wrong, "")
		check(wrong, "z")
		check("", wrong)
		check("a", wrong)
		check(wrong, wrong)
		check(long(32), wrong)
		check(wrong, long(32))
	}
	rows(t, long(32), "")
	rows(t, "", long(32))
	rows(t, strings.Repeat("\x00", 32), strings.Repeat("\xff", 32))
}

// P404 with rule 4: both answers are memory of their own.
func TestP404NewMemory(t *testing.T) {
	for _, to := range []string{"", "b\x00"} {
		lo, hi := rows(t, "a\x00", to)
		again, end := bytes.Clone(lo), bytes.Clone(hi)
		spoil(lo)
		same(t, "hi behind a spoiled lo", hi, end)
		spoil(hi)
		lo, hi = rows(t, "a\x00", to)
		same(t, "lo", lo, again)
		same(t, "hi", hi, end)
		spoil(hi)
		same(t, "lo behind a spoiled hi", lo, again)
	}
}

// someName: of bytes that meet often, so that names begin one another.
func someName(chance *rand.Rand, least int) string {
	letters := []byte{0, 0, 1, 2, 'a', 254, 255}
	b := make([]byte, least+chance.Intn(4))
	for i := range b {
		b[i] = letters[chance.Intn(len(letters))]
	}
	return string(b)
}

func someKey(chance *rand.Rand) api.Key {
	return key(someName(chance, 1), someName(chance, 1), someName(chance, 0), times()[chance.Intn(len(times()))])
}

// P405: of any two right keys.
func TestP405KeysStandAsTheirBytes(t *testing.T) {
	list := keys()
	for _, k := range rising() {
		if isRight(k) {
			list = append(list, k)
		}
	}
	for _, a := range list {
		for _, b := range list {
			holdsOf(t, a, b)
		}
	}
}

func holdsOf(t *testing.T, a, b api.Key) {
	t.Helper()
	if got, want := bytes.Compare(bytesOf(t, a), bytesOf(t, b)), cell.Cmp(a, b); got != want {
		t.Errorf("%#v and %#v: %d by their bytes, %d by Cmp", a, b, got, want)
	}
}

func TestP405OfSomeKeys(t *testing.T) {
	chance := rand.New(rand.NewSource(4))
	var list []api.Key
	for range 20000 {
		a, b := someKey(chance), someKey(chance)
		holdsOf(t, a, b)
		b.Row, b.Family = a.Row, a.Family
		holdsOf(t, a, b)
		list = append(list, a)
	}
	slices.SortFunc(list, cell.Cmp)
	sorted := slices.IsSortedFunc(list, func(a, b api.Key) int {
		return bytes.Compare(bytesOf(t, a), bytesOf(t, b))
	})
	is(t, "sorted by Cmp, and so by bytes", sorted, true)
}

func FuzzP402ReadIsBytes(f *testing.F) {
	f.Add([]byte{97, 0, 1, 98, 0, 1, 0, 1, 255, 255, 255, 255, 255, 255, 255, 255})
	f.Add([]byte{0, 255, 0, 1, 98, 0, 1, 0, 255, 0, 1, 0, 1, 0, 1, 0, 1, 0, 1})
	f.Add([]byte{97, 0, 1, 98, 0, 2})
	f.Fuzz(func(t *testing.T, b []byte) {
		before := bytes.Clone(b)
		k, kind := cell.Read(b)
		same(t, "handed in", b, before)
		if kind == api.OK {
			is(t, "right", isRight(k), true)
			same(t, "Bytes", bytesOf(t, k), b)
		} else {
			isNone(t, "none", b)
		}
	})
}

func FuzzP405(f *testing.F) {
	f.Add("a", "b", "", uint64(0), "a\x00", "b", "", uint64(1))
	f.Add("", "", "", uint64(0), long(33), "b", "", uint64(1))
	f.Fuzz(func(t *testing.T, row, family, qual string, time uint64, row2, family2, qual2 string, time2 uint64) {
		a, b := key(row, family, qual, time), key(row2, family2, qual2, time2)
		for _, k := range []api.Key{a, b} {
			is(t, "Right", cell.Right(k) == api.OK, isRight(k))
		}
		is(t, "turned round", cell.Cmp(a, b), -cell.Cmp(b, a))
		is(t, "0 of the same alone", cell.Cmp(a, b) == 0, a == b)
		// the forms of wrong keys stand as the keys do, too
		is(t, "as the bytes", cell.Cmp(a, b), bytes.Compare(formOf(a), formOf(b)))
		if isRight(a) && isRight(b) {
			holdsOf(t, a, b)
		}
	})
}
