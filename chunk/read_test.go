package chunk_test

import (
	"bytes"
	"fmt"
	"slices"
	"testing"

	"bulwark/api"
	"bulwark/chunk"
)

func read(t *testing.T, what string, b []byte, want []api.Item) {
	t.Helper()
	items, kind := chunk.Read(b)
	is(t, what+": Read", kind, api.OK)
	sameItems(t, what, items, want)
}

// someChunks: lists of items that a chunk may have.
func someChunks() [][]api.Item {
	return [][]api.Item{
		{item("k", "")},
		{item("a", "1"), item("ab", "22"), item("b", "")},
		{{Key: long(256), Value: long(1024)}},
		{{Key: long(127), Value: long(128)}, {Key: long(128), Value: long(127)}},
		edges(), some(2), some(63), some(64),
	}
}

func TestP902WrittenOut(t *testing.T) {
	read(t, "one item", []byte("\x01\x01k\x00"), []api.Item{item("k", "")})
	read(t, "three", []byte("\x03\x01a\x011\x02ab\x0222\x01b\x00"), []api.Item{item("a", "1"), item("ab", "22"), item("b", "")})
	read(t, "bytes of any kind", []byte("\x02\x01\x00\x01\x00\x01\xff\x01\x80"), []api.Item{item("\x00", "\x00"), item("\xff", "\x80")})
	for _, items := range someChunks() {
		read(t, fmt.Sprint(len(items), " items"), formOf(items), items)
	}
}

func TestP902HowMany(t *testing.T) {
	for count := 1; count <= 64; count++ {
		read(t, fmt.Sprint(count), formOf(some(count)), some(count))
	}
	notRead(t, "no item", []byte{0}, api.BadForm)
	for _, count := range []int{65, 66, 127, 128, 129, 300} {
		notRead(t, fmt.Sprint(count), formOf(some(count)), api.TooLarge)
		notRead(t, fmt.Sprint(count, " that are not there"), number(count), api.TooLarge)
	}
	notRead(t, "2^64 - 1", []byte{255, 255, 255, 255, 255, 255, 255, 255, 255, 1}, api.TooLarge)
	notRead(t, "2^64 + 1", []byte{129, 128, 128, 128, 128, 128, 128, 128, 128, 2}, api.BadForm)
	notRead(t, "64 that are not there", []byte{64}, api.Short)
	notRead(t, "63, called 64", append([]byte{64}, formOf(some(63))[1:]...), api.Short)
	notRead(t, "64, called 63", append([]byte{63}, formOf(some(64))[1:]...), api.BadForm)
}

// P902: sizes of each item's key and value, among others that are right.
func TestP902Sizes(t *testing.T) {
	for place := range 3 {
		for _, c := range []struct {
			key, value int
			want       api.Kind
		}{
			{1, 0, api.OK}, {1, 1, api.OK}, {1, 1024, api.OK}, {1, 1025, api.TooLarge}, {1, 5000, api.TooLarge},
			{2, 7, api.OK}, {127, 7, api.OK}, {128, 7, api.OK}, {255, 7, api.OK}, {256, 7, api.OK}, {257, 7, api.TooLarge}, {5000, 7, api.TooLarge},
			{256, 1024, api.OK}, {256, 1025, api.TooLarge}, {257, 1024, api.TooLarge}, {257, 1025, api.TooLarge},
			{0, 0, api.BadForm}, {0, 1024, api.BadForm}, {0, 1025, api.TooLarge},
		} {
			items := []api.Item{item("a", "1"), item("b", "2"), item("c", "3")}
			items[place] = api.Item{Key: bytes.Repeat([]byte{byte('a' + place)}, c.key), Value: long(c.value)}
			what := fmt.Sprintf("key of %d, value of %d at %d", c.key, c.value, place)
			if c.want == api.OK {
				read(t, what, formOf(items), items)
				read(t, what+" alone", formOf(items[place:place+1]), items[place:place+1])
				continue
			}
			notRead(t, what, formOf(items), c.want)
			notRead(t, what+" alone", formOf(items[place:place+1]), c.want)
		}
	}
}

// P902: each pair of keys, alone and among others: the second one must be above the first, byte by byte.
func TestP902KeysRise(t *testing.T) {
	keys := []string{"", "\x00", "\x00\x00", "\x01", "a", "a\x00", "aa", "ab", "b", "\x7f", "\x80", "\xff", "\xff\x00", string(long(255)), string(long(256))}
	for _, a := range keys {
		for _, b := range keys {
			what := fmt.Sprintf("%q, %q", a, b)
			items := []api.Item{item(a, "1"), item(b, "2")}
			longer := slices.Concat(items, []api.Item{item("\xff\xff", ""), item("\xff\xff\x00", "")})
			if a != "" && a < b {
				read(t, what, formOf(items), items)
				read(t, what+" and others", formOf(longer), longer)
				continue
			}
			notRead(t, what, formOf(items), api.BadForm)
			notRead(t, what+" and others", formOf(longer), api.BadForm)
		}
	}
}

// P902: two neighbours that are the same, or change places, anywhere in the largest chunk.
func TestP902OneFallAnywhere(t *testing.T) {
	for i := range 63 {
		items := some(64)
		items[i], items[i+1] = items[i+1], items[i]
		notRead(t, fmt.Sprint("falls at ", i), formOf(items), api.BadForm)
		items = some(64)
		items[i+1].Key = items[i].Key
		notRead(t, fmt.Sprint("the same at ", i), formOf(items), api.BadForm)
		items = some(64)
		items[i+1].Key = nil
		notRead(t, fmt.Sprint("empty behind ", i), formOf(items), api.BadForm)
	}
	items := some(64)
	items[0].Key = nil
	notRead(t, "empty first", formOf(items), api.BadForm)
}

func TestP902CutShort(t *testing.T) {
	notRead(t, "nil", nil, api.Short)
	notRead(t, "no bytes", []byte{}, api.Short)
	for _, items := range someChunks() {
		b := formOf(items)
		for i := range b {
			notRead(t, fmt.Sprintf("%d bytes of %d", i, len(b)), b[:i], api.Short)
		}
	}
}

func TestP902MoreBehind(t *testing.T) {
	for _, items := range someChunks() {
		b := formOf(items)
		for _, more := range [][]byte{{0}, {1}, {255}, pair("zz", "z"), b} {
			notRead(t, "more behind", slices.Concat(b, more), api.BadForm)
		}
	}
}

// P902: numbers that are not in wire's shortest form.
func TestP902ShortestForm(t *testing.T) {
	for name, b := range map[string]string{
		"how many":       "\x81\x00\x01k\x01v",
		"how many, none": "\x80\x00",
		"a key's size":   "\x01\x81\x00k\x01v",
		"a value's size": "\x01\x01k\x81\x00v",
		"an empty value": "\x01\x01k\x80\x00",
		"an empty key":   "\x01\x80\x00\x01v",
		"the second key": "\x02\x01k\x01v\x81\x00l\x01v",
		"by two bytes":   "\x01\x01k\x81\x80\x00v",
		"a great number": "\x01\xff\xff\xff\xff\xff\xff\xff\xff\xff\x02",
		"an endless one": "\xff\xff\xff\xff\xff\xff\xff\xff\xff\xff\xff\xff",
	} {
		notRead(t, name, []byte(b), api.BadForm)
	}
}

// P902: what the reader says, of the first thing that is wrong to it, is told ahead of what the items are, wherever that stands.
func TestP902SeveralFaults(t *testing.T) {
	join := func(parts ...[]byte) []byte { return slices.Concat(parts...) }
	wideKey, wideValue := pair(string(long(257)), "v"), pair("k", string(long(1025)))
	for name, c := range map[string]struct {
		b    []byte
		want api.Kind
	}{
		"an empty key, then Short":               {join([]byte{2}, pair("", "v")), api.Short},
		"an empty key, its value Short":          {[]byte("\x01\x00\x05v"), api.Short},
		"an empty key, its value too long":       {join([]byte{1}, pair("", string(long(1025)))), api.TooLarge},
		"an empty key, a key too long":           {join([]byte{2}, pair("", "v"), wideKey), api.TooLarge},
		"an empty key, a value too long":         {join([]byte{2}, pair("", "v"), wideValue), api.TooLarge},
		"an empty key, more behind":              {join([]byte{1}, pair("", "v"), []byte{1}), api.BadForm},
		"keys that fall, then Short":             {join([]byte{3}, pair("b", "v"), pair("a", "v")), api.Short},
		"keys that fall, a key too long":         {join([]byte{3}, pair("b", "v"), pair("a", "v"), wideKey), api.TooLarge},
		"keys that fall, a value too long":       {join([]byte{3}, pair("b", "v"), pair("a", "v"), wideValue), api.TooLarge},
		"keys that fall, the value too long":     {join([]byte{2}, pair("b", "v"), pair("a", string(long(1025)))), api.TooLarge},
		"keys that are the same, then Short":     {join([]byte{3}, pair("b", "v"), pair("b", "v")), api.Short},
		"no item, more behind":                   {[]byte{0, 0}, api.BadForm},
		"no item, a chunk behind":                {join([]byte{0}, formOf(some(3))), api.BadForm},
		"too many, the first key empty":          {join([]byte{65}, pair("", "v")), api.TooLarge},
		"too many, keys that fall":               {join([]byte{65}, pair("b", "v"), pair("a", "v")), api.TooLarge},
		"a key too long, then Short":             {join([]byte{2}, wideKey), api.TooLarge},
		"a key too long, not all there":          {[]byte("\x01\x81\x02k"), api.TooLarge},
		"a value too long, then Short":           {join([]byte{2}, wideValue), api.TooLarge},
		"a value too long, not all there":        {[]byte("\x01\x01k\x81\x08v"), api.TooLarge},
		"a key too long, then not shortest":      {join([]byte{1}, text(long(257)), []byte("\x81\x00v")), api.TooLarge},
		"not shortest, then a value too long":    {join([]byte("\x01\x81\x00k"), text(long(1025))), api.BadForm},
		"not shortest, then Short":               {[]byte("\x02\x81\x00k"), api.BadForm},
		"how many not shortest, a key too long":  {join([]byte{129, 0}, wideKey), api.BadForm},
		"a key Short, that would be empty later": {[]byte("\x02\x01k\x00\x05"), api.Short},
	} {
		notRead(t, name, c.b, c.want)
	}
}

func TestP902ChangesNothing(t *testing.T) {
	for _, items := range someChunks() {
		form := formOf(items)
		b := roomy(form, 7, 7, 7)
		room := bytes.Clone(b[:cap(b)])
		first, _ := chunk.Read(b)
		second, _ := chunk.Read(b)
		same(t, "the bytes", b[:cap(b)], room)
		spoilItems(first)
		same(t, "the bytes behind it", b[:cap(b)], room)
		read(t, "read again", b, items)
		spoil(b)
		sameItems(t, "items that are kept", second, items)
	}
	for name, wrong := range map[string][]byte{"keys that fall": slices.Concat([]byte{2}, pair("b", "v"), pair("a", "v")), "Short": {3, 1}} {
		b := roomy(wrong, 7, 7, 7)
		room := bytes.Clone(b[:cap(b)])
		chunk.Read(b)
		same(t, name, b[:cap(b)], room)
	}
}

// P902: no list stands in another one's room.
func TestP902ItemsShareNothing(t *testing.T) {
	for _, want := range someChunks() {
		items, _ := chunk.Read(formOf(want))
		var lists, wants [][]byte
		for i := range items {
			lists = append(lists, items[i].Key, items[i].Value)
			wants = append(wants, want[i].Key, want[i].Value)
		}
		for i := range lists {
			spoil(lists[i])
			sameChunks(t, "those behind", lists[i+1:], wants[i+1:])
		}
		items, _ = chunk.Read(formOf(want))
		for i := range slices.Backward(items) {
			spoil(items[i].Value)
			same(t, "its key", items[i].Key, want[i].Key)
			spoil(items[i].Key)
			sameItems(t, "those ahead", items[:i], want[:i])
		}
	}
}
