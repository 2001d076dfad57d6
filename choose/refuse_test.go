package choose_test

import (
	"bytes"
	"fmt"
	"slices"
	"testing"

	"bulwark/api"
	"bulwark/choose"
	"bulwark/message"
	"bulwark/seal"
)

const (
	badArg  = api.BadArg
	badTag  = api.BadTag
	badForm = api.BadForm
)

// P1601: BadArg stands ahead of all that can be wrong with the text.
func TestP1601BadArg(t *testing.T) {
	right := changeOf(t, 1, 1, 1, 0).sign(t)
	for _, s := range []signed{right, {}, {From: 1}, sign(1, []byte("no message")), {From: greatest, B: right.B, Tag: right.Tag}} {
		for _, f := range impossible() {
			readsNot(t, fmt.Sprint("of ", f), f, s, court{}, badArg)
			readsNot(t, fmt.Sprint("of ", f, " and no judge"), f, s, nil, badArg)
		}
		readsNot(t, "no judge", 1, s, nil, badArg)
	}
}

// P1601: a view change of who is no replica, whatever the judge says.
func TestP1601NoReplica(t *testing.T) {
	for f, n := range faulty() {
		for _, from := range []uint64{0, n + 1, n + 2, 14, 101, 255, 256, 257, 1<<32 + 1, 1 << 63, greatest} {
			s := changeOf(t, f, from, 1, 0).sign(t)
			readsNot(t, fmt.Sprint(from, " of ", f), f, s, court{}, badTag)
			readsNot(t, fmt.Sprint(from, " of ", f), f, s, lenient{}, badTag)
		}
	}
}

// P1601: BadTag stands ahead of a text that is not right.
func TestP1601BadTag(t *testing.T) {
	for _, s := range []signed{changeOf(t, 1, 2, 3, 4, prepared(5, 1, "a")).sign(t), sign(2, []byte("no message")), sign(2, nil)} {
		var wrong []signed
		for i := range s.Tag {
			wrong = append(wrong, signed{From: s.From, B: s.B, Tag: bytes.Clone(s.Tag)})
			wrong[i].Tag[i] ^= 1
		}
		wrong = append(wrong,
			signed{From: 1, B: s.B, Tag: s.Tag},
			signed{From: s.From, B: append(bytes.Clone(s.B), 0), Tag: s.Tag},
			signed{From: s.From, B: s.B},
			signed{From: s.From, B: s.B, Tag: s.Tag[:31]},
			signed{From: s.From, B: s.B, Tag: append(bytes.Clone(s.Tag), 0)},
			signed{From: s.From, Tag: tagOf(1, nil)})
		for i, x := range wrong {
			readsNot(t, fmt.Sprint("wrong ", i), 1, x, court{}, badTag)
		}
	}
}

// P1601: a judge that is there, but is nothing, checks nothing.
func TestP1601NilBook(t *testing.T) {
	var book *seal.Book
	readsNot(t, "a nil book", 1, changeOf(t, 1, 1, 1, 0).sign(t), book, badTag)
	readsNot(t, "the zero book", 1, changeOf(t, 1, 1, 1, 0).sign(t), &seal.Book{}, badTag)
}

// P1601: texts that are no view changes.
func TestP1601NoViewChange(t *testing.T) {
	c := changeOf(t, 1, 2, 3, 4, prepared(5, 1, "a"))
	b := put(t, c.x)
	wrong := [][]byte{nil, {}, {0}, []byte("no message"), append(bytes.Clone(b), 0), append([]byte{0}, b...)}
	for i := range b {
		wrong = append(wrong, b[:i])
	}
	request := api.Request{Client: 101, Stamp: 1, O: api.Op{Kind: api.Scan}}
	texts := func(n int) []signed { return make([]signed, n) }
	for _, x := range []body{
		{Kind: 1, Reqs: []api.Request{request}},
		{Kind: aPrePrepare, View: 3, Seq: 4, Sum: sum("a")},
		{Kind: aPrepare, View: 3, Seq: 4, Sum: sum("a")},
		{Kind: aCommit, View: 3, Seq: 4, Sum: sum("a")},
		{Kind: 5, Reply: api.Reply{Client: 101, Stamp: 1, View: 3}},
		{Kind: aCheckpoint, Seq: 4, Sum: sum("a")},
		{Kind: aNewView, View: 3, Cert: c.x.Cert, Sets: c.x.Sets},
		{Kind: 9, Seq: 4},
		{Kind: 10, Seq: 4, Sum: sum("a"), Cert: texts(1)},
		{Kind: 11, Sum: sum("a")},
		{Kind: 12, Cert: c.x.Cert},
		{Kind: 13, Reqs: []api.Request{request}},
		{Kind: 14, Seq: 4, Cert: texts(3)},
	} {
		wrong = append(wrong, put(t, x))
	}
	for i, b := range wrong {
		readsNot(t, fmt.Sprint("wrong ", i), 1, sign(2, b), court{}, badForm)
		readsNot(t, fmt.Sprint("wrong ", i, ", taken by the judge"), 1, signed{From: 2, B: b}, lenient{}, badForm)
	}
}

// fault: what is wrong with a view change that is right else.
type fault struct {
	name  string
	spoil func(t *testing.T, c *change)
}

// readsNone: a right change of low 4, with certificates of 6 and 9, is not right with any of the faults.
func readsNone(t *testing.T, faults []fault) {
	t.Helper()
	for f := range faulty() {
		for _, x := range faults {
			c := changeOf(t, f, 2, 3, 4, prepared(6, 2, "a"), prepared(9, 0, "b"))
			reads(t, x.name+", ahead", f, c.sign(t), court{}, wantClaim(2, 4, prepared(6, 2, "a"), prepared(9, 0, "b")), 3)
			x.spoil(t, &c)
			readsNot(t, fmt.Sprint(x.name, " of ", f), f, c.sign(t), court{}, badForm)
		}
	}
}

func TestP1601WrongNumbers(t *testing.T) {
	for f := range faulty() {
		readsNot(t, fmt.Sprint("view 0 of ", f), f, changeOf(t, f, 1, 0, 0).sign(t), court{}, badForm)
		for _, low := range []uint64{1, 2, 3, 5, 6, 7, 9, 1<<32 + 2, mostLow - 1, mostLow + 1, mostLow + 3, mostLow + 4, mostLow + 8, mostSeq} {
			readsNot(t, fmt.Sprint("low ", low, " of ", f), f, changeOf(t, f, 1, 1, low).sign(t), court{}, badForm)
		}
	}
}

// checkpoints: of some replicas.
func checkpoints(t *testing.T, froms []uint64, seq uint64, word string) []signed {
	t.Helper()
	return sayAll(t, froms, body{Kind: aCheckpoint, Seq: seq, Sum: sum(word)})
}

// P1601: where the low mark is 0 there is no checkpoint.
func TestP1601CheckpointsOfNothing(t *testing.T) {
	for f, n := range faulty() {
		for _, many := range []int{1, 2*f + 1, int(n)} {
			for _, seq := range []uint64{0, 4} {
				c := changeOf(t, f, 1, 1, 0)
				c.x.Cert = checkpoints(t, upTo(many), seq, "state")
				readsNot(t, fmt.Sprint(many, " of ", seq, ", ", f), f, c.sign(t), court{}, badForm)
			}
		}
	}
}

func TestP1601WrongCheckpoints(t *testing.T) {
	readsNone(t, []fault{
		{"none", func(t *testing.T, c *change) { c.x.Cert = nil }},
		{"one", func(t *testing.T, c *change) { c.x.Cert = c.x.Cert[:1] }},
		{"too few", func(t *testing.T, c *change) { c.x.Cert = c.x.Cert[:2*c.f] }},
		{"too many", func(t *testing.T, c *change) { c.x.Cert = checkpoints(t, upTo(2*c.f+2), 4, "state") }},
		{"all", func(t *testing.T, c *change) { c.x.Cert = checkpoints(t, upTo(3*c.f+1), 4, "state") }},
		{"one twice", func(t *testing.T, c *change) { c.x.Cert[1] = c.x.Cert[0] }},
		{"the last one twice", func(t *testing.T, c *change) { c.x.Cert[2*c.f-1] = c.x.Cert[2*c.f] }},
		{"falling", func(t *testing.T, c *change) { slices.Reverse(c.x.Cert) }},
		{"two the other way", func(t *testing.T, c *change) { c.x.Cert[0], c.x.Cert[1] = c.x.Cert[1], c.x.Cert[0] }},
		{"the last two the other way", func(t *testing.T, c *change) {
			c.x.Cert[2*c.f-1], c.x.Cert[2*c.f] = c.x.Cert[2*c.f], c.x.Cert[2*c.f-1]
		}},
		{"of another number", func(t *testing.T, c *change) { c.x.Cert = checkpoints(t, upTo(2*c.f+1), 8, "state") }},
		{"of number 0", func(t *testing.T, c *change) { c.x.Cert = checkpoints(t, upTo(2*c.f+1), 0, "state") }},
	})
}

// P1601: each of the checkpoints is asked for all that a right one has.
func TestP1601OneWrongCheckpoint(t *testing.T) {
	for f, n := range faulty() {
		for i := range 2*f + 1 {
			own := uint64(i) + 1
			right := body{Kind: aCheckpoint, Seq: 4, Sum: sum("state")}
			for name, s := range map[string]signed{
				"another sum":      say(t, own, body{Kind: aCheckpoint, Seq: 4, Sum: sum("other")}),
				"another number":   say(t, own, body{Kind: aCheckpoint, Seq: 8, Sum: sum("state")}),
				"a commit":         say(t, own, body{Kind: aCommit, Seq: 4, Sum: sum("state")}),
				"a prepare":        say(t, own, body{Kind: aPrepare, Seq: 4, Sum: sum("state")}),
				"a need":           say(t, own, body{Kind: 11, Sum: sum("state")}),
				"no message":       sign(own, append(put(t, right), 0)),
				"nothing":          sign(own, nil),
				"another's tag":    {From: own, B: put(t, right), Tag: tagOf(own+1, put(t, right))},
				"a tag of noughts": {From: own, B: put(t, right), Tag: make([]byte, 32)},
			} {
				c := changeOf(t, f, 1, 1, 4)
				c.x.Cert[i] = s
				readsNot(t, fmt.Sprint(name, " at ", i, " of ", f), f, c.sign(t), court{}, badForm)
			}
		}
		for _, from := range []uint64{n + 1, 101, greatest} {
			c := changeOf(t, f, 1, 1, 4)
			c.x.Cert[2*f] = say(t, from, body{Kind: aCheckpoint, Seq: 4, Sum: sum("state")})
			readsNot(t, fmt.Sprint("of ", from, ", ", f), f, c.sign(t), court{}, badForm)
			readsNot(t, fmt.Sprint("of ", from, ", ", f), f, c.sign(t), lenient{}, badForm)
		}
	}
}

// P1601: how many texts a certificate has, and in what order.
func TestP1601WrongCertificates(t *testing.T) {
	set := func(spoil func(f int, set []signed) []signed) func(*testing.T, *change) {
		return func(t *testing.T, c *change) {
			for _, i := range []int{0, 1} {
				d := *c
				d.x.Sets = slices.Clone(c.x.Sets)
				d.x.Sets[i] = spoil(c.f, slices.Clone(c.x.Sets[i]))
				readsNot(t, fmt.Sprint("in set ", i, " of ", c.f), c.f, d.sign(t), court{}, badForm)
			}
			c.x.Sets[0] = spoil(c.f, slices.Clone(c.x.Sets[0]))
		}
	}
	readsNone(t, []fault{
		{"no text", set(func(f int, l []signed) []signed { return nil })},
		{"a pre-prepare alone", set(func(f int, l []signed) []signed { return l[:1] })},
		{"too few", set(func(f int, l []signed) []signed { return l[:2*f] })},
		{"no pre-prepare", set(func(f int, l []signed) []signed { return l[1:] })},
		{"the pre-prepare again", set(func(f int, l []signed) []signed { return append(l, l[0]) })},
		{"a prepare again", set(func(f int, l []signed) []signed { return append(l, l[2*f]) })},
		{"a prepare twice", set(func(f int, l []signed) []signed { l[1] = l[2]; return l })},
		{"the last one twice", set(func(f int, l []signed) []signed { l[2*f] = l[2*f-1]; return l })},
		{"the pre-prepare for a prepare", set(func(f int, l []signed) []signed { l[1] = l[0]; return l })},
		{"a prepare for the pre-prepare", set(func(f int, l []signed) []signed { l[0] = l[1]; return l })},
		{"the pre-prepare last", set(func(f int, l []signed) []signed { return append(l[1:], l[0]) })},
		{"falling", set(func(f int, l []signed) []signed { slices.Reverse(l[1:]); return l })},
		{"two the other way", set(func(f int, l []signed) []signed { l[1], l[2] = l[2], l[1]; return l })},
		{"the last two the other way", set(func(f int, l []signed) []signed { l[2*f-1], l[2*f] = l[2*f], l[2*f-1]; return l })},
	})
}

// P1601: each set is a certificate, and one more prepare makes none.
func TestP1601TooManyPrepares(t *testing.T) {
	for f, n := range faulty() {
		for many := 2*f + 1; many < int(n); many++ {
			c := changeOf(t, f, 1, 1, 0)
			c.x.Sets = [][]signed{certBy(t, 1, backups(f, 0, many), 1, 0, "a")}
			readsNot(t, fmt.Sprint(many, " of ", f), f, c.sign(t), court{}, badForm)
		}
		// and what is one among more of the replicas is none among fewer
		if f > 1 {
			c := changeOf(t, f, 1, 1, 0, prepared(1, 0, "a"))
			readsNot(t, fmt.Sprint(f, " as of ", f-1), f-1, c.sign(t), court{}, badForm)
			c = changeOf(t, f-1, 1, 1, 0, prepared(1, 0, "a"))
			readsNot(t, fmt.Sprint(f-1, " as of ", f), f, c.sign(t), court{}, badForm)
			c = changeOf(t, f-1, 1, 1, 4)
			readsNot(t, fmt.Sprint("a low mark of ", f-1, " as of ", f), f, c.sign(t), court{}, badForm)
		}
	}
}

// P1601: the primary of the certificate's view leads it, whoever leads the one that is changed to.
func TestP1601WrongLeader(t *testing.T) {
	for f, n := range faulty() {
		for view := range n {
			for leader := uint64(1); leader <= n+1; leader++ {
				if leader == primaryOf(view, f) {
					continue
				}
				c := changeOf(t, f, 1, n+1, 0)
				voters := slices.DeleteFunc(backups(f, view, 2*f), func(from uint64) bool { return from == leader })
				for from := n; len(voters) < 2*f; from-- {
					if from != leader && from != primaryOf(view, f) && !slices.Contains(voters, from) {
						voters = append(voters, from)
					}
				}
				slices.Sort(voters)
				c.x.Sets = [][]signed{certBy(t, leader, voters, 1, view, "a")}
				readsNot(t, fmt.Sprint(leader, " leads ", view, " of ", f), f, c.sign(t), court{}, badForm)
				readsNot(t, fmt.Sprint(leader, " leads ", view, " of ", f), f, c.sign(t), lenient{}, badForm)
			}
		}
	}
}

// P1601: the primary does not prepare.
func TestP1601PrimaryPrepares(t *testing.T) {
	for f, n := range faulty() {
		for view := range n {
			leader := primaryOf(view, f)
			voters := append(backups(f, view, 2*f-1), leader)
			slices.Sort(voters)
			c := changeOf(t, f, 1, n, 0)
			c.x.Sets = [][]signed{certBy(t, leader, voters, 1, view, "a")}
			readsNot(t, fmt.Sprint(leader, " prepares in ", view, " of ", f), f, c.sign(t), court{}, badForm)
		}
	}
}

// P1601: each of a certificate's texts is asked for all that a right one has.
func TestP1601OneWrongText(t *testing.T) {
	for f := range faulty() {
		for i := range 2*f + 1 {
			c := changeOf(t, f, 2, 100, 0, prepared(2, 5, "a"), prepared(3, 5, "b"))
			own, x := c.x.Sets[1][i].From, body{Kind: aPrepare, View: 5, Seq: 3, Sum: sum("b")}
			if i == 0 {
				x.Kind = aPrePrepare
			}
			other := func(change func(x *body)) signed {
				y := x
				change(&y)
				return say(t, own, y)
			}
			b := put(t, x)
			is(t, "the text that is wrong next", bytes.Equal(c.x.Sets[1][i].B, b), true)
			for name, s := range map[string]signed{
				"another view":         other(func(x *body) { x.View = 4 }),
				"a view of its too":    other(func(x *body) { x.View += faulty()[f] }),
				"another number":       other(func(x *body) { x.Seq = 4 }),
				"the set ahead":        c.x.Sets[0][i],
				"another sum":          other(func(x *body) { x.Sum = sum("a") }),
				"a sum's last bit":     other(func(x *body) { x.Sum = bytes.Clone(x.Sum); x.Sum[31] ^= 1 }),
				"the other of the two": other(func(x *body) { x.Kind = aPrePrepare + aPrepare - x.Kind }),
				"a commit":             other(func(x *body) { x.Kind = aCommit }),
				"a checkpoint":         other(func(x *body) { x.Kind, x.View = aCheckpoint, 0 }),
				"no message":           sign(own, append(bytes.Clone(b), 0)),
				"nothing":              sign(own, nil),
				"another's tag":        {From: own, B: b, Tag: tagOf(own+1, b)},
				"a tag of noughts":     {From: own, B: b, Tag: make([]byte, 32)},
			} {
				d := c
				d.x.Sets = [][]signed{c.x.Sets[0], slices.Clone(c.x.Sets[1])}
				d.x.Sets[1][i] = s
				readsNot(t, fmt.Sprint(name, " at ", i, " of ", f), f, d.sign(t), court{}, badForm)
			}
		}
	}
}

// P1601: who is no replica prepares nothing.
func TestP1601PreparesOfNoReplica(t *testing.T) {
	for f, n := range faulty() {
		for _, from := range []uint64{n + 1, 101, greatest} {
			c := changeOf(t, f, 1, 1, 0)
			c.x.Sets = [][]signed{certBy(t, 1, append(backups(f, 0, 2*f-1), from), 1, 0, "a")}
			readsNot(t, fmt.Sprint(from, " of ", f), f, c.sign(t), court{}, badForm)
			readsNot(t, fmt.Sprint(from, " of ", f), f, c.sign(t), lenient{}, badForm)
		}
	}
}

// P1601: a certificate is of a view below the one that is changed to.
func TestP1601CertificateTooNew(t *testing.T) {
	for f, n := range faulty() {
		for _, view := range []uint64{1, 2, n, mostView} {
			for _, old := range []uint64{view, view + 1, view + n, mostView} {
				if old < view || old > mostView {
					continue
				}
				s := changeOf(t, f, 1, view, 0, prepared(1, old, "a")).sign(t)
				readsNot(t, fmt.Sprint(old, ", not below ", view, " of ", f), f, s, court{}, badForm)
				s = changeOf(t, f, 1, view, 0, prepared(1, 0, "a"), prepared(2, old, "a")).sign(t)
				readsNot(t, fmt.Sprint("the second of ", old, " of ", f), f, s, court{}, badForm)
			}
		}
	}
}

// P1601: numbers of certificates are above the low mark, by at most Window, and rise.
func TestP1601CertificateNumbers(t *testing.T) {
	for f := range faulty() {
		for _, low := range []uint64{0, 4, 8, mostLow} {
			for _, seqs := range [][]uint64{
				{low}, {low + 9}, {low + 10}, {mostSeq}, {low, low + 1}, {low + 1, low + 9}, {low + 8, low + 9},
				{low + 1, low + 1}, {low + 2, low + 1}, {low + 8, low + 7}, {low + 1, low + 3, low + 2}, {low + 1, low + 3, low + 3}, {low + 3, low + 1, low + 4},
				{low - 1}, {low - 4}, {0}, {1, low + 1}, {low - 1, low + 1},
			} {
				var pres []pre
				for _, seq := range seqs {
					pres = append(pres, prepared(seq, 0, "a"))
				}
				if slices.Max(seqs) > mostSeq || low == 0 && seqs[0] == 1 && seqs[len(seqs)-1] == 1 && len(seqs) == 1 {
					continue
				}
				s := changeOf(t, f, 1, 1, low, pres...).sign(t)
				readsNot(t, fmt.Sprint(seqs, " above ", low, " of ", f), f, s, court{}, badForm)
			}
		}
	}
}

// P1601: with an error nothing of what was right is told.
func TestP1601WrongAtTheEnd(t *testing.T) {
	c := changeOf(t, 1, 2, 3, 4, prepared(5, 1, "a"), prepared(6, 1, "b"))
	c.x.Sets = append(c.x.Sets, nil)
	readsNot(t, "the last set is none", 1, c.sign(t), court{}, badForm)
}

// asked: a judge that keeps what it was asked, and says no to one text.
type asked struct {
	no  []byte
	all *[]signed
}

func (a asked) Check(node uint64, b, tag []byte) bool {
	*a.all = append(*a.all, signed{From: node, B: bytes.Clone(b), Tag: bytes.Clone(tag)})
	return !bytes.Equal(b, a.no)
}

// P1601: each text is asked about, as it came, and one that does not check is enough to be wrong.
func TestP1601EachIsAsked(t *testing.T) {
	for f := range faulty() {
		c := changeOf(t, f, 2, 3, 4, prepared(5, 1, "a"), prepared(6, 2, "b"))
		s := c.sign(t)
		want := append([]signed{s}, c.x.Cert...)
		want = append(want, slices.Concat(c.x.Sets...)...)
		var all []signed
		_, _, k := choose.Read(f, s, asked{all: &all})
		is(t, "Read", k, api.OK)
		for i, x := range want {
			found := slices.ContainsFunc(all, func(y signed) bool {
				return x.From == y.From && bytes.Equal(x.B, y.B) && bytes.Equal(x.Tag, y.Tag)
			})
			is(t, fmt.Sprint("text ", i, " was asked about, of ", f), found, true)
			if i > 0 {
				readsNot(t, fmt.Sprint("text ", i, " does not check, of ", f), f, s, asked{x.B, &all}, badForm)
			}
		}
		readsNot(t, "its own does not check", f, s, asked{s.B, &all}, badTag)
	}
}

// scribe: a judge that writes over what it is asked about.
type scribe struct{}

func (scribe) Check(node uint64, b, tag []byte) bool {
	right := court{}.Check(node, b, tag)
	spoil(b)
	spoil(tag)
	return right
}

// bench: a judge that breaks down, from some text on.
type bench struct{ left *int }

func (b bench) Check(node uint64, text, tag []byte) bool {
	*b.left--
	if *b.left < 0 {
		var none map[string]int
		none["broken"] = 1
	}
	return true
}

// P1601: whatever the judge does.
func TestP1601StrangeJudges(t *testing.T) {
	c := changeOf(t, 1, 2, 3, 4, prepared(5, 1, "a"))
	s := c.sign(t)
	reads(t, "a judge that writes", 1, s, scribe{}, wantClaim(2, 4, prepared(5, 1, "a")), 3)
	reads(t, "again", 1, s, court{}, wantClaim(2, 4, prepared(5, 1, "a")), 3)
	for left := range 7 {
		want := badForm
		if left == 0 {
			want = badTag
		}
		readsNot(t, fmt.Sprint("a judge that breaks down behind ", left), 1, s, bench{&left}, want)
	}
	readsNot(t, "a judge that is a nil pointer", 1, s, (*bench)(nil), badTag)
}

// P1601: what is handed in is not changed, and what is handed out is new memory.
func TestP1601Memory(t *testing.T) {
	for f := range faulty() {
		pres := []pre{prepared(5, 1, "a"), prepared(6, 2, "b"), prepared(7, 2, "b")}
		s := changeOf(t, f, 2, 3, 4, pres...).sign(t)
		b, bodyStays := roomy(t, s.B)
		tag, tagStays := roomy(t, s.Tag)
		u := signed{From: 2, B: b, Tag: tag}
		first, _, _ := choose.Read(f, u, court{})
		second, _, _ := choose.Read(f, u, court{})
		spoil(second.Low0)
		spoilPres(second.Pres)
		bodyStays()
		tagStays()
		sameClaim(t, "behind what was written elsewhere", first, wantClaim(2, 4, pres...))
		spoil(b)
		spoil(tag)
		sameClaim(t, "behind what was written into the text", first, wantClaim(2, 4, pres...))
		spoil(first.Low0)
		spoil(first.Pres[0].Sum)
		same(t, "a sum beside", first.Pres[1].Sum, sum("b"))
		spoil(first.Pres[1].Sum)
		same(t, "an equal sum beside", first.Pres[2].Sum, sum("b"))
	}
}

// P1601: no byte of a right change can be another one.
func TestP1601EachByte(t *testing.T) {
	s := changeOf(t, 1, 2, 3, 4, prepared(6, 2, "a")).sign(t)
	want, view, _ := choose.Read(1, s, court{})
	for i := range s.B {
		for _, bit := range []byte{1, 2, 16, 128} {
			b := bytes.Clone(s.B)
			b[i] ^= bit
			c, gotView, k := choose.Read(1, sign(2, b), court{})
			if k == api.OK && gotView != view && c.Low == want.Low {
				// another view that is above the certificate's is a right one too
				x, wrong := message.Read(b)
				is(t, "it is a message", wrong, api.OK)
				is(t, "its view", x.View, gotView)
				is(t, "above the certificate's", gotView > 2, true)
				continue
			}
			is(t, fmt.Sprint("byte ", i, ", bit ", bit), k, badForm)
		}
	}
}
