package message_test

import (
	"fmt"
	"math"
	"slices"
	"testing"

	"bulwark/api"
	"bulwark/message"
	"bulwark/op"
)

// row: of the chapter's table; how many there may be of the lists.
type row struct {
	view, seq, sum, reply bool
	reqs                  int
	certFrom, certTo      int
	setsFrom, setsTo      int
}

// table: the chapter's, written out by numbers.
func table() map[int]row {
	return map[int]row{
		1:  {reqs: 1},
		2:  {view: true, seq: true, sum: true},
		3:  {view: true, seq: true, sum: true},
		4:  {view: true, seq: true, sum: true},
		5:  {reply: true},
		6:  {seq: true, sum: true},
		7:  {view: true, seq: true, certTo: 16, setsTo: 16},
		8:  {view: true, certTo: 16, setsFrom: 1, setsTo: 1},
		9:  {seq: true},
		10: {seq: true, sum: true, certFrom: 1, certTo: 1},
		11: {sum: true},
		12: {certTo: 4},
		13: {reqs: 1},
		14: {seq: true, certFrom: 3, certTo: 3},
	}
}

// meant: is a body right, by the words?
func meant(x body) bool {
	r, known := table()[x.Kind]
	if !known {
		return false
	}
	numberIs := func(n uint64, has bool) bool { return n == 0 || has && n < 1<<62 }
	if !numberIs(x.View, r.view) || !numberIs(x.Seq, r.seq) || r.sum != (len(x.Sum) == 32) || !r.sum && len(x.Sum) > 0 {
		return false
	}
	if len(x.Reqs) != r.reqs || len(x.Cert) < r.certFrom || len(x.Cert) > r.certTo || len(x.Sets) < r.setsFrom || len(x.Sets) > r.setsTo {
		return false
	}
	for _, q := range x.Reqs {
		if q.Client == 0 || q.Stamp == 0 || op.Right(q.O) != api.OK || x.Kind == 13 && q.O.Kind != api.Get && q.O.Kind != api.Scan {
			return false
		}
	}
	if !meantReply(x.Reply, r.reply) {
		return false
	}
	for _, s := range x.Cert {
		if !meantText(s, x.Kind == 10 || x.Kind == 14) {
			return false
		}
	}
	for _, set := range x.Sets {
		if len(set) > 16 || slices.ContainsFunc(set, func(s signed) bool { return !meantText(s, false) }) {
			return false
		}
	}
	return true
}

func meantReply(y api.Reply, has bool) bool {
	if !has {
		return y.Client == 0 && y.Stamp == 0 && y.View == 0 && y.R.E == 0 && len(y.R.Cells) == 0 && !y.R.More
	}
	_, kind := op.Result(y.R)
	return y.Client > 0 && y.Stamp > 0 && y.View < 1<<62 && kind == api.OK
}

func meantText(s signed, plain bool) bool {
	if plain {
		return s.From == 0 && len(s.Tag) == 0 && len(s.B) <= 65536
	}
	return s.From > 0 && len(s.Tag) == 32 && len(s.B) <= 16384
}

// judged: Right against the words.
func judged(t *testing.T, what string, x body) {
	t.Helper()
	if meant(x) {
		right(t, what, x)
	} else {
		wrong(t, what, x)
	}
}

func TestP1301RightKinds(t *testing.T) {
	for _, n := range slices.Concat(rightBodies(), longBodies()) {
		is(t, n.name+": by the words", meant(n.x), true)
		right(t, n.name, n.x)
		right(t, n.name+", lists that are not nil", copyOf(n.x))
		right(t, n.name+", lists that are nil", bare(n.x))
	}
}

func TestP1301RightNoKind(t *testing.T) {
	for _, kind := range []int{0, 15, 16, 64, 127, 128, 256 + 4, 1<<32 + 4, -1, -4, -14, math.MaxInt, math.MinInt} {
		wrong(t, fmt.Sprint("nothing of kind ", kind), body{Kind: kind})
		for _, n := range rightBodies() {
			x := n.x
			x.Kind = kind
			wrong(t, fmt.Sprintf("%s as kind %d", n.name, kind), x)
		}
	}
	wrong(t, "the zero body", body{})
}

// P1301: each right body as each other kind.
func TestP1301RightOtherKind(t *testing.T) {
	for _, n := range rightBodies() {
		for kind := range 16 {
			x := n.x
			x.Kind = kind
			judged(t, fmt.Sprintf("%s as kind %d", n.name, kind), x)
		}
	}
}

// change: of one part of a body.
type change struct {
	name string
	make func(x *body)
}

// changes: of each part, to something else; every kind has some of these wrong.
func changes() []change {
	q := issued(101, 1, scan())
	out := []change{
		{"Sum nil", func(x *body) { x.Sum = nil }},
		{"Sum empty", func(x *body) { x.Sum = []byte{} }},
		{"no Reqs", func(x *body) { x.Reqs = nil }},
		{"Reqs empty", func(x *body) { x.Reqs = []api.Request{} }},
		{"Reqs one", func(x *body) { x.Reqs = []api.Request{q} }},
		{"Reqs one that writes", func(x *body) { x.Reqs = []api.Request{issued(101, 1, put("r", "v"))} }},
		{"Reqs two", func(x *body) { x.Reqs = []api.Request{q, q} }},
		{"Reqs five", func(x *body) { x.Reqs = slices.Repeat([]api.Request{q}, 5) }},
		{"Reply none", func(x *body) { x.Reply = api.Reply{} }},
		{"Reply of no cells", func(x *body) { x.Reply = api.Reply{R: api.Result{Cells: []api.Cell{}}} }},
		{"Reply", func(x *body) { x.Reply = answered(1, 1, 1, api.Result{Cells: cells(1)}) }},
		{"Reply's Client", func(x *body) { x.Reply = api.Reply{Client: 1} }},
		{"Reply's Stamp", func(x *body) { x.Reply = api.Reply{Stamp: 1} }},
		{"Reply's View", func(x *body) { x.Reply = api.Reply{View: 1} }},
		{"Reply's E", func(x *body) { x.Reply = api.Reply{R: api.Result{E: api.Missing}} }},
		{"Reply's Cells", func(x *body) { x.Reply = api.Reply{R: api.Result{Cells: cells(1)}} }},
		{"Reply's More", func(x *body) { x.Reply = api.Reply{R: api.Result{More: true}} }},
	}
	for _, n := range []uint64{0, 1, 127, 128, most - 1, most, most + 1, 1 << 63, greatest} {
		out = append(out,
			change{fmt.Sprint("View ", n), func(x *body) { x.View = n }},
			change{fmt.Sprint("Seq ", n), func(x *body) { x.Seq = n }})
	}
	for _, n := range []int{1, 16, 31, 32, 33, 64, 128} {
		out = append(out, change{fmt.Sprintf("Sum of %d", n), func(x *body) { x.Sum = fill(n) }})
	}
	for n := range 19 {
		out = append(out,
			change{fmt.Sprintf("Cert of %d", n), func(x *body) { x.Cert = texts(n) }},
			change{fmt.Sprintf("plain Cert of %d", n), func(x *body) { x.Cert = plains(n) }},
			change{fmt.Sprintf("Sets of %d", n), func(x *body) { x.Sets = make([][]signed, n) }},
			change{fmt.Sprintf("Sets, one of %d", n), func(x *body) { x.Sets = [][]signed{texts(n)} }},
			change{fmt.Sprintf("Sets, the last of %d", n), func(x *body) { x.Sets = [][]signed{nil, {}, texts(n)} }},
			change{fmt.Sprintf("Sets, one of %d plain ones", n), func(x *body) { x.Sets = [][]signed{plains(n)} }})
	}
	return out
}

// P1301: each kind with each part set to something else.
func TestP1301RightEachPart(t *testing.T) {
	for _, n := range slices.Concat(plainBodies(), fullBodies()) {
		for _, c := range changes() {
			x := n.x
			c.make(&x)
			judged(t, n.name+", "+c.name, x)
		}
	}
}

// P1301: parts that no kind has together, in each two of them.
func TestP1301RightTwoParts(t *testing.T) {
	all := changes()
	for _, n := range plainBodies() {
		for i, a := range all {
			for _, b := range all[i+1:] {
				x := n.x
				a.make(&x)
				b.make(&x)
				want := api.BadForm
				if meant(x) {
					want = api.OK
				}
				if got := message.Right(x); got != want {
					t.Errorf("%s, %s, %s: %d, not %d", n.name, a.name, b.name, got, want)
				}
			}
		}
	}
}

// P1301: what a part that a kind has not is, in each kind, written out.
func TestP1301RightHasNot(t *testing.T) {
	parts := map[string]func(x *body){
		"view":  func(x *body) { x.View = 1 },
		"seq":   func(x *body) { x.Seq = 1 },
		"sum":   func(x *body) { x.Sum = fill(32) },
		"reqs":  func(x *body) { x.Reqs = []api.Request{issued(1, 1, scan())} },
		"reply": func(x *body) { x.Reply = answered(1, 1, 0, api.Result{}) },
		"cert":  func(x *body) { x.Cert = texts(1) },
		"sets":  func(x *body) { x.Sets = sets(1) },
	}
	has := [][]string{
		{"reqs"}, {"view", "seq", "sum"}, {"view", "seq", "sum"}, {"view", "seq", "sum"}, {"reply"}, {"seq", "sum"},
		{"view", "seq", "cert", "sets"}, {"view", "cert", "sets"}, {"seq"}, {"seq", "sum"}, {"sum"}, {"cert"}, {"reqs"}, {"seq"},
	}
	for i, n := range plainBodies() {
		for part, set := range parts {
			x := n.x
			set(&x)
			what := n.name + " with " + part
			if slices.Contains(has[i], part) {
				right(t, what, x)
			} else {
				wrong(t, what, x)
			}
		}
	}
}

func TestP1301RightRequests(t *testing.T) {
	for name, q := range wrongRequests() {
		for _, kind := range []int{aRequest, anAsk} {
			wrong(t, fmt.Sprintf("%s in kind %d", name, kind), body{Kind: kind, Reqs: []api.Request{q}})
		}
	}
	for _, o := range writing() {
		q := []api.Request{issued(1, 1, o)}
		right(t, fmt.Sprint("a request of ", o.Kind), body{Kind: aRequest, Reqs: q})
		wrong(t, fmt.Sprint("an ask of ", o.Kind), body{Kind: anAsk, Reqs: q})
	}
	for _, o := range reading() {
		q := []api.Request{issued(1, 1, o)}
		right(t, fmt.Sprint("a request of ", o.Kind), body{Kind: aRequest, Reqs: q})
		right(t, fmt.Sprint("an ask of ", o.Kind), body{Kind: anAsk, Reqs: q})
		two := append(q, issued(1, 2, o))
		wrong(t, fmt.Sprint("two requests of ", o.Kind), body{Kind: aRequest, Reqs: two})
		wrong(t, fmt.Sprint("two asks of ", o.Kind), body{Kind: anAsk, Reqs: two})
	}
	for _, kind := range []int{aRequest, anAsk} {
		wrong(t, "no request", body{Kind: kind})
		wrong(t, "no request, a list", body{Kind: kind, Reqs: []api.Request{}})
		for _, n := range []uint64{1, 127, 128, most + 1, greatest} {
			right(t, "a great Client", body{Kind: kind, Reqs: []api.Request{issued(n, 1, scan())}})
			right(t, "a great Stamp", body{Kind: kind, Reqs: []api.Request{issued(1, n, scan())}})
		}
	}
}

func TestP1301RightReply(t *testing.T) {
	of := func(y api.Reply) body { return body{Kind: aReply, Reply: y} }
	for name, r := range wrongResults() {
		wrong(t, name, of(answered(1, 1, 0, r)))
	}
	for i, r := range rightResults() {
		what := fmt.Sprint("result ", i)
		right(t, what, of(answered(1, 1, 0, r)))
		wrong(t, what+", Client 0", of(answered(0, 1, 0, r)))
		wrong(t, what+", Stamp 0", of(answered(1, 0, 0, r)))
		wrong(t, what+", View above MaxView", of(answered(1, 1, most+1, r)))
	}
	for e := api.OK; e <= api.Refused; e++ {
		right(t, fmt.Sprint("E ", int(e)), of(answered(1, 1, 0, api.Result{E: e})))
	}
	for _, n := range []uint64{0, 1, most, most + 1, 1 << 63, greatest} {
		judged(t, fmt.Sprint("Client ", n), of(answered(n, 1, 1, api.Result{})))
		judged(t, fmt.Sprint("Stamp ", n), of(answered(1, n, 1, api.Result{})))
		judged(t, fmt.Sprint("View ", n), of(answered(1, 1, n, api.Result{})))
	}
	wrong(t, "no reply", of(api.Reply{}))
}

// slot: a place where a text may stand.
type slot struct {
	name  string
	plain bool
	with  func(s signed) body
}

func slots() []slot {
	among := func(count, at int, s signed) []signed {
		l := texts(count)
		l[at] = s
		return l
	}
	out := []slot{
		{"a new view's Cert", false, func(s signed) body { return body{Kind: aNewView, Cert: []signed{s}, Sets: sets(1)} }},
		{"a new view's set", false, func(s signed) body { return body{Kind: aNewView, Sets: [][]signed{{s}}} }},
		{"a new view's set's last", false, func(s signed) body { return body{Kind: aNewView, Sets: [][]signed{among(16, 15, s)}} }},
		{"a view change's Cert's last", false, func(s signed) body { return body{Kind: aViewChange, Cert: among(16, 15, s)} }},
		{"a view change's set", false, func(s signed) body { return body{Kind: aViewChange, Sets: [][]signed{{s}}} }},
		{"a view change's last set", false, func(s signed) body {
			return body{Kind: aViewChange, Cert: texts(2), Sets: [][]signed{texts(3), {}, texts(2), among(3, 1, s)}}
		}},
		{"a batch", false, func(s signed) body { return body{Kind: aBatch, Cert: []signed{s}} }},
		{"a batch's last", false, func(s signed) body { return body{Kind: aBatch, Cert: among(4, 3, s)} }},
		{"a state", true, func(s signed) body { return body{Kind: aState, Sum: fill(32), Cert: []signed{s}} }},
	}
	for i := range 3 {
		out = append(out, slot{fmt.Sprint("a shown one's ", i), true, func(s signed) body {
			l := plains(3)
			l[i] = s
			return body{Kind: aShown, Seq: 4, Cert: l}
		}})
	}
	return out
}

// P1301: every text, at every place where one may stand, against the words.
func TestP1301RightTexts(t *testing.T) {
	for _, p := range slots() {
		for _, from := range []uint64{0, 1, 101, greatest} {
			for _, tag := range []int{0, 1, 31, 32, 33, 64} {
				for _, size := range []int{0, 1, 16383, 16384, 16385, 65535, 65536, 65537} {
					s := signed{From: from, B: fill(size), Tag: fill(tag)}
					what := fmt.Sprintf("%s: From %d, B of %d, Tag of %d", p.name, from, size, tag)
					want := from > 0 && tag == 32 && size <= 16384
					if p.plain {
						want = from == 0 && tag == 0 && size <= 65536
					}
					if want {
						right(t, what, p.with(s))
					} else {
						wrong(t, what, p.with(s))
					}
				}
			}
		}
	}
}

func TestP1301RightHowMany(t *testing.T) {
	for n := range 40 {
		check := func(what string, x body, may bool) {
			t.Helper()
			if may {
				right(t, fmt.Sprintf("%s: %d", what, n), x)
			} else {
				wrong(t, fmt.Sprintf("%s: %d", what, n), x)
			}
		}
		check("a view change's Cert", body{Kind: aViewChange, Cert: texts(n)}, n <= 16)
		check("a view change's Sets", body{Kind: aViewChange, Sets: make([][]signed, n)}, n <= 16)
		check("a view change's set", body{Kind: aViewChange, Sets: [][]signed{texts(n)}}, n <= 16)
		check("a view change's last set", body{Kind: aViewChange, Sets: append(sets(15), texts(n))}, n <= 16)
		check("a new view's Cert", body{Kind: aNewView, Cert: texts(n), Sets: sets(1)}, n <= 16)
		check("a new view's Sets", body{Kind: aNewView, Sets: make([][]signed, n)}, n == 1)
		check("a new view's set", body{Kind: aNewView, Sets: [][]signed{texts(n)}}, n <= 16)
		check("a batch", body{Kind: aBatch, Cert: texts(n)}, n <= 4)
		check("a state", body{Kind: aState, Sum: fill(32), Cert: plains(n)}, n == 1)
		check("a shown one", body{Kind: aShown, Cert: plains(n)}, n == 3)
	}
	wrong(t, "a great Cert", body{Kind: aViewChange, Cert: make([]signed, 1<<20)})
	wrong(t, "great Sets", body{Kind: aViewChange, Sets: make([][]signed, 1<<20)})
}

// P1301: a body that Right looks at is not changed, spare room neither.
func TestP1301RightMemory(t *testing.T) {
	for _, n := range rightBodies() {
		x := copyOf(n.x)
		before := seen(x)
		message.Right(x)
		is(t, n.name+": behind Right", seen(x), before)
		x.Kind = 0
		before = seen(x)
		message.Right(x)
		is(t, n.name+": behind Right of no kind", seen(x), before)
	}
}
