package proof_test

import (
	"bytes"
	"fmt"
	"math"
	"slices"
	"testing"

	"bulwark/api"
	"bulwark/proof"
)

func bytesOf(t *testing.T, what string, p part) []byte {
	t.Helper()
	b, kind := proof.Bytes(p)
	is(t, what, kind, api.OK)
	return b
}

// noBytes: that kind, and nothing beside it.
func noBytes(t *testing.T, what string, p part, want api.Kind) {
	t.Helper()
	b, kind := proof.Bytes(p)
	is(t, what, kind, want)
	is(t, what+": bytes", len(b), 0)
}

func noPart(t *testing.T, what string, b []byte, want api.Kind) {
	t.Helper()
	p, kind := proof.Read(b)
	is(t, what, kind, want)
	samePart(t, what, p, part{})
}

// roundTrip: put as the words say, and read as it was.
func roundTrip(t *testing.T, what string, p part) {
	t.Helper()
	b := bytesOf(t, what, p)
	same(t, what, b, formOf(p))
	back, kind := proof.Read(b)
	is(t, what+" read", kind, api.OK)
	samePart(t, what+" read", back, p)
}

// P803: forms written out.
func TestP803WrittenOut(t *testing.T) {
	kid := part{Keys: [][]byte{{9}}, Known: []bool{false}, Vals: [][]byte{{8, 8}}, Kids: []part{{}, {}}}
	cases := []struct {
		name string
		p    part
		form string
	}{
		{"none", part{}, "\x00\x00\x00"},
		{"none of a level", part{Level: 64}, "\x00\x40\x00"},
		{"pruned", part{Pruned: true, Sum: []byte("abc")}, "\x01\x03abc"},
		{"pruned without a Sum", part{Pruned: true}, "\x01\x00"},
		{"a node", kid, "\x00\x00\x01\x01\x09\x00\x02\x08\x08\x00\x00\x00\x00\x00\x00"},
		{"kids", part{
			Level: 5, Keys: [][]byte{[]byte("k"), {}}, Known: []bool{true, true}, Vals: [][]byte{{}, []byte("v")},
			Kids: []part{{Pruned: true, Sum: []byte{7}}, kid, {Level: 2}},
		}, "\x00\x05\x02\x01k\x01\x00\x00\x01\x01v\x01\x01\x07\x00\x00\x01\x01\x09\x00\x02\x08\x08\x00\x00\x00\x00\x00\x00\x00\x02\x00"},
	}
	for _, c := range cases {
		same(t, c.name, bytesOf(t, c.name, c.p), []byte(c.form))
		p, kind := proof.Read([]byte(c.form))
		is(t, c.name+" read", kind, api.OK)
		samePart(t, c.name+" read", p, c.p)
	}
}

// P803: by the words its Kids are one more than its Keys, and where there is no key no kid is put.
func TestP803OneKidWithoutKeys(t *testing.T) {
	p := part{Level: 3, Kids: []part{leafPart("k1", "v1", true)}}
	same(t, "Bytes", bytesOf(t, "Bytes", p), []byte{0, 3, 0})
	p.Kids[0].Level = -1
	noBytes(t, "its kid", p, api.BadArg)
	p.Kids[0] = deep(64, part{})
	noBytes(t, "nested deeper", p, api.TooLarge)
	p.Kids = make([]part, 2)
	noBytes(t, "two kids", p, api.BadArg)
}

func TestP803EveryBuild(t *testing.T) {
	keys := mixed()
	x := made(t, itemsFor(keys))
	for _, lo := range edges(keysAt(2, 2)) {
		for _, hi := range edges(keysAt(1, 3)) {
			roundTrip(t, fmt.Sprintf("%q to %q", lo, hi), proof.Build(x, lo, hi))
		}
	}
}

// badArgs: parts of which Bytes tells BadArg.
func badArgs() map[string]part {
	pruned := func(change func(p *part)) part {
		p := part{Pruned: true, Sum: sum("x")}
		change(&p)
		return p
	}
	node := func(change func(p *part)) part {
		p := clone(leafPart("k1", "v1", true))
		change(&p)
		return p
	}
	return map[string]part{
		"pruned with a Level":          pruned(func(p *part) { p.Level = 1 }),
		"pruned with a Level below 0":  pruned(func(p *part) { p.Level = -1 }),
		"pruned with Keys":             pruned(func(p *part) { p.Keys = make([][]byte, 1) }),
		"pruned with Known":            pruned(func(p *part) { p.Known = make([]bool, 1) }),
		"pruned with Vals":             pruned(func(p *part) { p.Vals = make([][]byte, 1) }),
		"pruned with Kids":             pruned(func(p *part) { p.Kids = make([]part, 1) }),
		"no node, with a Sum":          {Sum: []byte{1}},
		"no node, with Known":          {Known: make([]bool, 1)},
		"no node, with Vals":           {Vals: make([][]byte, 1)},
		"no node, with Known and Vals": {Known: make([]bool, 1), Vals: make([][]byte, 1)},
		"no node, Level below 0":       {Level: -1},
		"no node, Level far below 0":   {Level: math.MinInt},
		"no keys, two kids":            {Kids: make([]part, 2)},
		"no keys, a kid and Known":     {Known: make([]bool, 1), Kids: make([]part, 1)},
		"no keys, a kid and Vals":      {Vals: make([][]byte, 1), Kids: make([]part, 1)},
		"a Sum":                        node(func(p *part) { p.Sum = sum("x") }),
		"Level below 0":                node(func(p *part) { p.Level = -1 }),
		"Known none":                   node(func(p *part) { p.Known = nil }),
		"Known too many":               node(func(p *part) { p.Known = append(p.Known, false) }),
		"Vals none":                    node(func(p *part) { p.Vals = nil }),
		"Vals too many":                node(func(p *part) { p.Vals = append(p.Vals, nil) }),
		"Kids none":                    node(func(p *part) { p.Kids = nil }),
		"Kids too few":                 node(func(p *part) { p.Kids = p.Kids[:1] }),
		"Kids too many":                node(func(p *part) { p.Kids = append(p.Kids, part{}) }),
		"all three none beside Keys":   node(func(p *part) { p.Known, p.Vals, p.Kids = nil, nil, nil }),
		"Keys none":                    node(func(p *part) { p.Keys = nil }),
		"Keys too many":                node(func(p *part) { p.Keys = append(p.Keys, []byte{1}) }),
	}
}

func TestP803BadArg(t *testing.T) {
	for name, p := range badArgs() {
		noBytes(t, name, p, api.BadArg)
		noBytes(t, name+", beneath", smallPart(true, true, part{}, p), api.BadArg)
		noBytes(t, name+", far beneath", deep(62, smallPart(true, true, p, part{})), api.BadArg)
		for other, q := range badArgs() {
			noBytes(t, name+", "+other, smallPart(true, true, p, q), api.BadArg)
		}
	}
}

// P803: an empty list is none.
func TestP803EmptyLists(t *testing.T) {
	same(t, "pruned", bytesOf(t, "pruned", part{Pruned: true, Sum: []byte{}, Keys: [][]byte{}, Known: []bool{}, Vals: [][]byte{}, Kids: []part{}}), []byte{1, 0})
	same(t, "no node", bytesOf(t, "no node", part{Sum: []byte{}, Keys: [][]byte{}, Known: []bool{}, Vals: [][]byte{}, Kids: []part{}}), []byte{0, 0, 0})
}

func TestP803Deep(t *testing.T) {
	for name, inmost := range map[string]part{"no node": {}, "pruned": {Pruned: true, Sum: sum("x")}} {
		for _, depth := range []int{1, 2, 63, 64} {
			roundTrip(t, fmt.Sprint(name, " nested ", depth, " deep"), deep(depth, inmost))
		}
		for _, depth := range []int{65, 66, 128, 1<<16 - 1} {
			what := fmt.Sprint(name, " nested ", depth, " deep")
			noBytes(t, what, deep(depth, inmost), api.TooLarge)
			if depth < 1000 {
				noPart(t, what, formOf(deep(depth, inmost)), api.BadForm)
			}
		}
	}
	beside := deep(65, part{})
	noBytes(t, "in the last kid", smallPart(true, true, part{}, beside.Kids[0]), api.TooLarge)
}

// sized: a node of many keys, whose form has just so many bytes.
func sized(t *testing.T, size int) part {
	t.Helper()
	const count = 1017
	p := part{Level: 1, Known: make([]bool, count), Kids: make([]part, count+1)}
	for i := range count {
		p.Keys = append(p.Keys, []byte{byte(i >> 8), byte(i)})
		p.Vals = append(p.Vals, make([]byte, 1024))
	}
	over := len(formOf(p)) - size
	for i := 0; over > 0; i++ {
		fewer := min(over, 800) // leaves as many bytes for the value's size
		p.Vals[i] = p.Vals[i][:1024-fewer]
		over -= fewer
	}
	is(t, "bytes", len(formOf(p)), size)
	return p
}

func TestP803MaxBytes(t *testing.T) {
	const over = 4 // of a pruned part with so large a Sum
	b := bytesOf(t, "a Sum", part{Pruned: true, Sum: make([]byte, api.MaxBytes-over)})
	is(t, "bytes", len(b), api.MaxBytes)
	noBytes(t, "a Sum that is one more", part{Pruned: true, Sum: make([]byte, api.MaxBytes-over+1)}, api.TooLarge)

	roundTrip(t, "a node", sized(t, api.MaxBytes))
	noBytes(t, "a node of one more", sized(t, api.MaxBytes+1), api.TooLarge)

	kids := func(last int) part {
		p := smallPart(true, true, part{}, part{Pruned: true, Sum: make([]byte, last)})
		p.Kids[1] = part{Pruned: true, Sum: make([]byte, api.MaxBytes/2)}
		return p
	}
	size := api.MaxBytes/2 - 100
	size += api.MaxBytes - len(formOf(kids(size)))
	is(t, "bytes of kids", len(bytesOf(t, "kids", kids(size))), api.MaxBytes)
	noBytes(t, "kids of one more", kids(size+1), api.TooLarge)
	noBytes(t, "very many", part{Keys: make([][]byte, api.MaxBytes), Known: make([]bool, api.MaxBytes), Vals: make([][]byte, api.MaxBytes), Kids: make([]part, api.MaxBytes+1)}, api.TooLarge)
	p, _ := doubled(60, [][]byte{{1}})
	noBytes(t, "kids that stand in many places", p, api.TooLarge)
	p, _ = doubled(60, nil)
	noBytes(t, "kids without keys that do", p, api.BadArg)
	p, _ = doubled(65, nil)
	noBytes(t, "kids without keys that do, deeper", p, api.TooLarge)
}

// P803: what is too large is told first, wherever it stands.
func TestP803TooLargeAheadOfBadArg(t *testing.T) {
	large := part{Pruned: true, Sum: make([]byte, api.MaxBytes)}
	far := deep(64, part{})
	for name, p := range badArgs() {
		noBytes(t, name+" ahead of what is large", smallPart(true, true, p, large), api.TooLarge)
		noBytes(t, name+" behind what is large", smallPart(true, true, large, p), api.TooLarge)
		noBytes(t, name+" ahead of what is deep", smallPart(true, true, p, far), api.TooLarge)
		noBytes(t, name+" behind what is deep", smallPart(true, true, far, p), api.TooLarge)
		noBytes(t, name+" within what is deep", deep(65, p), api.TooLarge)
	}
	p := smallPart(true, true, far, part{})
	p.Sum = []byte{1}
	noBytes(t, "around what is deep", p, api.TooLarge)
	p = smallPart(true, true, large, part{})
	p.Level = -1
	noBytes(t, "around what is large", p, api.TooLarge)
	noBytes(t, "pruned, and deep", part{Pruned: true, Kids: []part{far}}, api.TooLarge)
}

// oneKey: a form of a node with these numbers and bytes, and two kids for no node.
func oneKey(level uint64, key int, val int) []byte {
	return slices.Concat([]byte{0}, number(level), []byte{1}, text(make([]byte, key)), []byte{0}, text(make([]byte, val)), make([]byte, 6))
}

// manyKeys: a form of a node with so many empty keys and values, and kids for no node.
func manyKeys(count int) []byte {
	return slices.Concat([]byte{0, 0}, number(uint64(count)), make([]byte, 3*count), make([]byte, 3*(count+1)))
}

func TestP803ReadBounds(t *testing.T) {
	pruned := func(size int) []byte { return append([]byte{1}, text(make([]byte, size))...) }
	cases := []struct {
		name string
		b    []byte
		want api.Kind
	}{
		{"Sum of 32", pruned(32), api.OK},
		{"Sum of 33", pruned(33), api.TooLarge},
		{"key of 256", oneKey(0, 256, 0), api.OK},
		{"key of 257", oneKey(0, 257, 0), api.TooLarge},
		{"Val of 1024", oneKey(0, 0, 1024), api.OK},
		{"Val of 1025", oneKey(0, 0, 1025), api.TooLarge},
		{"Level 64", oneKey(64, 1, 1), api.OK},
		{"Level 65", oneKey(65, 1, 1), api.TooLarge},
		{"a great Level", oneKey(math.MaxUint64, 1, 1), api.TooLarge},
		{"Level 64 of no node", []byte{0, 64, 0}, api.OK},
		{"Level 65 of no node", []byte{0, 65, 0}, api.TooLarge},
		{"4096 keys", manyKeys(4096), api.OK},
		{"4097 keys", manyKeys(4097), api.TooLarge},
		{"very many keys", slices.Concat([]byte{0, 0}, number(math.MaxUint64)), api.TooLarge},
	}
	for _, c := range cases {
		if c.want != api.OK {
			noPart(t, c.name, c.b, c.want)
			continue
		}
		p, kind := proof.Read(c.b)
		is(t, c.name, kind, api.OK)
		same(t, c.name+" put", bytesOf(t, c.name, p), c.b)
	}
}

// P803: Bytes puts what Read does not take, since the words bound it by MaxBytes and depth alone.
func TestP803BytesBeyondReadsBounds(t *testing.T) {
	node := leafPart("k1", "v1", true)
	level, key, val := clone(node), clone(node), clone(node)
	level.Level = math.MaxInt
	key.Keys[0] = make([]byte, 257)
	val.Vals[0] = make([]byte, 1025)
	many := part{Keys: make([][]byte, 4097), Known: make([]bool, 4097), Vals: make([][]byte, 4097), Kids: make([]part, 4098)}
	for name, p := range map[string]part{"Level": level, "key": key, "Val": val, "keys": many, "Sum": {Pruned: true, Sum: make([]byte, 33)}} {
		b := bytesOf(t, name, p)
		same(t, name, b, formOf(p))
		noPart(t, name, b, api.TooLarge)
	}
}

func someParts(t *testing.T) []part {
	x := made(t, itemsFor(slices.Concat(keysAt(0, 4), keysAt(1, 2), keysAt(2, 1))))
	return []part{{}, {Level: 7}, {Pruned: true, Sum: sum("x")}, {Pruned: true}, proof.Build(x, nil, beyond()), proof.Build(x, []byte("k1"), []byte("k2")), deep(64, part{})}
}

func TestP803CutShort(t *testing.T) {
	noPart(t, "nothing", nil, api.Short)
	for _, p := range someParts(t) {
		b := bytesOf(t, "Bytes", p)
		for i := range b {
			noPart(t, fmt.Sprintf("%d bytes of %d", i, len(b)), b[:i], api.Short)
		}
		for _, more := range [][]byte{{0}, {1}, {255}, b} {
			noPart(t, "with more behind", slices.Concat(b, more), api.BadForm)
		}
	}
}

func TestP803ReadBadForms(t *testing.T) {
	for name, c := range map[string]struct {
		b    string
		want api.Kind
	}{
		"neither pruned nor not":      {"\x02\x00\x00", api.BadForm},
		"a truth of two bytes":        {"\x80\x00\x00\x00", api.BadForm},
		"Level not in shortest form":  {"\x00\x80\x00\x00", api.BadForm},
		"count not in shortest form":  {"\x00\x00\x80\x00", api.BadForm},
		"Sum's size not so":           {"\x01\x81\x00\x05", api.BadForm},
		"key's size not so":           {"\x00\x00\x01\x81\x00k\x00\x00\x00\x00\x00\x00\x00\x00", api.BadForm},
		"Known neither":               {"\x00\x00\x01\x01k\x02\x00\x00\x00\x00\x00\x00\x00", api.BadForm},
		"Val's size not so":           {"\x00\x00\x01\x01k\x00\x80\x00\x00\x00\x00\x00\x00\x00", api.BadForm},
		"a kid neither":               {"\x00\x00\x01\x01k\x00\x00\x00\x00\x00\x03\x00\x00", api.BadForm},
		"a number above 64 bits":      {"\x00\xff\xff\xff\xff\xff\xff\xff\xff\xff\x02\x00", api.BadForm},
		"one kid behind no key":       {"\x00\x00\x00\x00\x00\x00", api.BadForm},
		"a kid too few":               {"\x00\x00\x01\x01k\x00\x00\x00\x00\x00", api.Short},
		"a kid too many":              {"\x00\x00\x01\x01k\x00\x00\x00\x00\x00\x00\x00\x00\x00\x00\x00", api.BadForm},
		"Level, then a wrong count":   {"\x00\x41\x80\x00", api.TooLarge},
		"a wrong Level, then a count": {"\x00\x80\x00\xff\xff\x7f", api.BadForm},
		"a kid's Level, then Short":   {"\x00\x00\x01\x01k\x00\x00\x00\x41", api.TooLarge},
		"Short, ahead of more":        {"\x01\x20\x00", api.Short},
		"many keys, none there":       {"\x00\x00\x80\x20", api.Short},
	} {
		noPart(t, name, []byte(c.b), c.want)
	}
}

// P803: a part that would stand too deep is refused where it begins, behind what stands ahead of it.
func TestP803ReadDeepFirst(t *testing.T) {
	b := formOf(deep(65, part{}))
	begin := bytes.LastIndex(b, []byte{1, 0, 1, 1, 1}) + 5 // behind the key, Known and Val of the part that is 64 deep
	noPart(t, "where it begins", b[:begin], api.BadForm)
	noPart(t, "ahead of it", b[:begin-1], api.Short)
	noPart(t, "a fault in it", append(bytes.Clone(b[:begin]), 9), api.BadForm)
}

func TestP803ChangesNothing(t *testing.T) {
	for _, x := range someParts(t) {
		p := clone(x)
		before, form := dump(p), formOf(x)
		b, first := bytesOf(t, "Bytes", p), bytesOf(t, "Bytes", p)
		is(t, "the part", dump(p), before)
		spoil(first)
		is(t, "the part behind it", dump(p), before)
		spoilPart(p)
		same(t, "bytes that are kept", b, form)

		b = roomy(b, 7, 7, 7)
		one, _ := proof.Read(b)
		two, _ := proof.Read(b)
		same(t, "bytes read", b[:cap(b)][:len(b)+3], append(bytes.Clone(form), 7, 7, 7))
		spoilPart(one)
		same(t, "bytes behind it", b, form)
		spoil(b)
		samePart(t, "a part that is kept", two, x)
	}
}

func TestP803ReadSharesNothingInside(t *testing.T) {
	p, _ := proof.Read(formOf(someParts(t)[4]))
	var lists [][]byte
	for _, x := range within(&p) {
		lists = append(append(append(lists, x.Sum), x.Keys...), x.Vals...)
	}
	for i := range lists {
		before := bytes.Clone(lists[(i+1)%len(lists)])
		spoil(lists[i])
		same(t, "beside", lists[(i+1)%len(lists)], before)
	}
}
