package digest_test

import (
	"bytes"
	"encoding/binary"
	"encoding/hex"
	"strings"
	"testing"

	"bulwark/digest"
)

// text: what Of hashes, told by the library's numbers of the same form.
func text(word string, parts [][]byte) []byte {
	out := append(binary.AppendUvarint(nil, uint64(len(word))), word...)
	out = binary.AppendUvarint(out, uint64(len(parts)))
	for _, part := range parts {
		out = append(binary.AppendUvarint(out, uint64(len(part))), part...)
	}
	return out
}

type list struct {
	word  string
	parts [][]byte
}

// lists: no two of them are the same, though many have the same bytes in a row.
func lists() []list {
	out := []list{
		{"", nil},
		{"", [][]byte{{}}},
		{"", [][]byte{{}, {}}},
		{"", [][]byte{{0}}},
		{"", [][]byte{{0, 0}}},
		{"\x00", nil},
		{"\x00", [][]byte{{}}},
		{"\x00\x00", nil},
		{"\x01", [][]byte{{1}}},
		{"abc", nil},
		{"a", [][]byte{[]byte("bc")}},
		{"a", [][]byte{[]byte("bc"), {}}},
		{"a", [][]byte{{}, []byte("bc")}},
		{"a", [][]byte{[]byte("b"), []byte("c")}},
		{"a", [][]byte{[]byte("c"), []byte("b")}},
		{"ab", [][]byte{[]byte("c")}},
		{"ab", [][]byte{[]byte("c"), {}}},
		{"a\x01\x01b", nil},
		{"\xff\xfe", [][]byte{[]byte("not runes")}},
		{"ä", [][]byte{[]byte("ä")}},
		{"a\xe4", [][]byte{[]byte("ä")}},
	}
	for _, size := range []int{126, 127, 128, 129, 300, 16384} {
		out = append(out, list{strings.Repeat("w", size), nil})
		out = append(out, list{"w", [][]byte{some(size)}})
		out = append(out, list{"w", make([][]byte, size)})
	}
	return out
}

func TestP202AsTold(t *testing.T) {
	same(t, "word and part", digest.Of("ab", [][]byte{[]byte("c")}), digest.Sum([]byte{2, 'a', 'b', 1, 1, 'c'}))
	same(t, "parts", digest.Of("a", [][]byte{{}, {7, 8}}), digest.Sum([]byte{1, 'a', 2, 0, 2, 7, 8}))
	same(t, "no parts", digest.Of("a", nil), digest.Sum([]byte{1, 'a', 0}))
	same(t, "empty list", digest.Of("a", [][]byte{}), digest.Sum([]byte{1, 'a', 0}))
	same(t, "nothing", digest.Of("", nil), digest.Sum([]byte{0, 0}))
	same(t, "an empty part", digest.Of("", [][]byte{{}}), digest.Sum([]byte{0, 1, 0}))
	same(t, "a nil part", digest.Of("", [][]byte{nil}), digest.Sum([]byte{0, 1, 0}))
}

func TestP202EachList(t *testing.T) {
	for _, l := range lists() {
		same(t, "Of", digest.Of(l.word, l.parts), librarySum(text(l.word, l.parts)))
	}
}

func TestP202Memory(t *testing.T) {
	one, checkOne := roomy(t, some(70))
	two, checkTwo := roomy(t, nil)
	spare := []byte("spare")
	whole := [][]byte{one, two, spare}
	of := digest.Of("word", whole[:2])
	if len(of) != 32 {
		t.Errorf("%d bytes, not 32", len(of))
	}
	spoil(of)
	checkOne()
	checkTwo()
	same(t, "spare part", whole[2], []byte("spare"))
	same(t, "Of again", digest.Of("word", whole[:2]), librarySum(text("word", whole[:2])))
}

func TestP203EachByte(t *testing.T) {
	for x := range 256 {
		got := digest.Hex([]byte{byte(x)})
		if want := hex.EncodeToString([]byte{byte(x)}); got != want {
			t.Errorf("Hex of %d: %q, not %q", x, got, want)
		}
	}
}

func TestP203Rows(t *testing.T) {
	cases := []struct {
		b    []byte
		text string
	}{
		{nil, ""},
		{[]byte{}, ""},
		{[]byte{0}, "00"},
		{[]byte{0, 1, 0}, "000100"},
		{[]byte{0x0a, 0xa0, 0x9f, 0xff}, "0aa09fff"},
		{[]byte{0x01, 0x23, 0x45, 0x67, 0x89, 0xab, 0xcd, 0xef}, "0123456789abcdef"},
	}
	for _, c := range cases {
		if got := digest.Hex(c.b); got != c.text {
			t.Errorf("Hex of %v: %q, not %q", c.b, got, c.text)
		}
	}
	for size := range 100 {
		b, check := roomy(t, some(size))
		if got := digest.Hex(b); got != hex.EncodeToString(b) {
			t.Errorf("Hex of %v: %q", b, got)
		}
		check()
	}
}

func TestP203TextStays(t *testing.T) {
	b := []byte{0xab}
	got := digest.Hex(b)
	b[0] = 0
	if got != "ab" {
		t.Errorf("%q, not \"ab\"", got)
	}
}

// P205: what is hashed of two lists that are not the same is not the same, nor are then the sums here.
func TestP205ListsHaveFormsOfTheirOwn(t *testing.T) {
	seen := map[string]list{}
	for _, l := range lists() {
		sum := string(digest.Of(l.word, l.parts))
		if other, ok := seen[sum]; ok {
			t.Errorf("one digest of %q and %q", l, other)
		}
		seen[sum] = l
	}
}

// All ways to part one row of bytes into a word and parts have digests of their own.
func TestP205PartingsDiffer(t *testing.T) {
	row := []byte{1, 1, 0, 2, 1, 1, 0, 1}
	seen := map[string]int{}
	for cuts := range 1 << (len(row) + 1) {
		var pieces [][]byte
		from := 0
		for at := range len(row) + 1 {
			if cuts>>at&1 == 1 {
				pieces = append(pieces, row[from:at])
				from = at
			}
		}
		pieces = append(pieces, row[from:])
		sum := string(digest.Of(string(pieces[0]), pieces[1:]))
		if other, ok := seen[sum]; ok {
			t.Errorf("one digest of the cuts %b and %b", cuts, other)
		}
		seen[sum] = cuts
	}
}

func FuzzP205(f *testing.F) {
	f.Add("a", []byte("bc"), []byte{}, "ab", []byte("c"), []byte{})
	f.Add("", []byte{0}, []byte{1}, "", []byte{}, []byte{0, 1})
	f.Fuzz(func(t *testing.T, word string, x, y []byte, word2 string, x2, y2 []byte) {
		one, two := [][]byte{x, y}, [][]byte{x2, y2}
		same(t, "Of", digest.Of(word, one), librarySum(text(word, one)))
		alike := word == word2 && bytes.Equal(x, x2) && bytes.Equal(y, y2)
		if bytes.Equal(digest.Of(word, one), digest.Of(word2, two)) != alike {
			t.Errorf("alike: %v, but not their digests", alike)
		}
	})
}
