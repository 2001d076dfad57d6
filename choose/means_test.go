package choose_test

import (
	"bytes"
	"crypto/sha256"
	"encoding/binary"
	"fmt"
	"math"
	"slices"
	"testing"

	"bulwark/api"
	"bulwark/choose"
	"bulwark/message"
)

type (
	body   = message.Body
	signed = message.Signed
	claim  = choose.Claim
	pre    = choose.Pre
)

// The kinds of messages, by chapter 13.
const (
	aPrePrepare = 2
	aPrepare    = 3
	aCommit     = 4
	aCheckpoint = 6
	aViewChange = 7
	aNewView    = 8
)

const (
	greatest = math.MaxUint64
	mostView = 1<<62 - 1
	mostSeq  = 1<<62 - 1
	mostLow  = 1<<62 - 12 // of the multiples of 4 the greatest one that is not above mostSeq less 8
)

func is[T comparable](t *testing.T, what string, got, want T) {
	t.Helper()
	if got != want {
		t.Errorf("%s: %#v, not %#v", what, got, want)
	}
}

func same(t *testing.T, what string, got, want []byte) {
	t.Helper()
	if !bytes.Equal(got, want) {
		t.Errorf("%s: %.100q, not %.100q", what, got, want)
	}
}

// faulty: each f that can be, and how many replicas there are.
func faulty() map[int]uint64 {
	return map[int]uint64{1: 4, 2: 7, 3: 10, 4: 13}
}

// impossible: f that can't be.
func impossible() []int {
	return []int{0, 5, 6, -1, -4, 255, 256, 257, 1 << 32, 1<<32 + 1, math.MaxInt, math.MaxInt / 2, math.MaxInt/3 + 1, math.MinInt, math.MinInt + 1}
}

func primaryOf(view uint64, f int) uint64 {
	return view%faulty()[f] + 1
}

// backups: the first n replicas that don't lead the view.
func backups(f int, view uint64, n int) []uint64 {
	var out []uint64
	for from := uint64(1); len(out) < n; from++ {
		if from != primaryOf(view, f) {
			out = append(out, from)
		}
	}
	return out
}

func sum(word string) []byte {
	h := sha256.Sum256([]byte(word))
	return h[:]
}

// tagOf: of a node and a text, the only one that the court takes.
func tagOf(node uint64, b []byte) []byte {
	h := sha256.Sum256(append(binary.BigEndian.AppendUint64(nil, node), b...))
	return h[:]
}

// court: a judge that takes each tag that is right, of whatever node.
type court struct{}

func (court) Check(node uint64, b, tag []byte) bool {
	return bytes.Equal(tag, tagOf(node, b))
}

// lenient: a judge that takes all.
type lenient struct{}

func (lenient) Check(uint64, []byte, []byte) bool { return true }

func sign(from uint64, b []byte) signed {
	return signed{From: from, B: b, Tag: tagOf(from, b)}
}

func put(t *testing.T, x body) []byte {
	t.Helper()
	b, wrong := message.Bytes(x)
	if wrong != api.OK {
		t.Fatalf("no right message: %+v", x)
	}
	return b
}

func say(t *testing.T, from uint64, x body) signed {
	t.Helper()
	return sign(from, put(t, x))
}

// sayAll: the same of each of some replicas.
func sayAll(t *testing.T, froms []uint64, x body) []signed {
	t.Helper()
	var out []signed
	for _, from := range froms {
		out = append(out, say(t, from, x))
	}
	return out
}

// upTo: the numbers 1 to n.
func upTo(n int) []uint64 {
	var out []uint64
	for from := range uint64(n) {
		out = append(out, from+1)
	}
	return out
}

// proofOf: of the first Most replicas.
func proofOf(t *testing.T, f int, seq uint64, word string) []signed {
	t.Helper()
	return sayAll(t, upTo(2*f+1), body{Kind: aCheckpoint, Seq: seq, Sum: sum(word)})
}

// certOf: of the view's primary and the first 2 f others.
func certOf(t *testing.T, f int, seq, view uint64, word string) []signed {
	t.Helper()
	return certBy(t, primaryOf(view, f), backups(f, view, 2*f), seq, view, word)
}

func certBy(t *testing.T, leader uint64, voters []uint64, seq, view uint64, word string) []signed {
	t.Helper()
	x := body{Kind: aPrePrepare, View: view, Seq: seq, Sum: sum(word)}
	first := say(t, leader, x)
	x.Kind = aPrepare
	return append([]signed{first}, sayAll(t, voters, x)...)
}

// change: a view change, before it is put and signed.
type change struct {
	f    int
	from uint64
	x    body
}

// changeOf: a right one. The words of pres stand for their sums.
func changeOf(t *testing.T, f int, from, view, low uint64, pres ...pre) change {
	t.Helper()
	x := body{Kind: aViewChange, View: view, Seq: low}
	if low > 0 {
		x.Cert = proofOf(t, f, low, "state")
	}
	for _, p := range pres {
		x.Sets = append(x.Sets, certOf(t, f, p.Seq, p.View, string(p.Sum)))
	}
	return change{f, from, x}
}

func (c change) sign(t *testing.T) signed {
	t.Helper()
	return say(t, c.from, c.x)
}

func prepared(seq, view uint64, word string) pre {
	return pre{Seq: seq, View: view, Sum: []byte(word)}
}

// wantClaim: what a right change of such parts claims.
func wantClaim(from, low uint64, pres ...pre) claim {
	c := claim{From: from, Low: low}
	if low > 0 {
		c.Low0 = sum("state")
	}
	for _, p := range pres {
		c.Pres = append(c.Pres, pre{p.Seq, p.View, sum(string(p.Sum))})
	}
	return c
}

func samePres(t *testing.T, what string, got, want []pre) {
	t.Helper()
	if len(got) != len(want) {
		t.Errorf("%s: %d, not %d: %.200v, not %.200v", what, len(got), len(want), got, want)
		return
	}
	for i := range got {
		is(t, fmt.Sprint(what, ": Seq ", i), got[i].Seq, want[i].Seq)
		is(t, fmt.Sprint(what, ": View ", i), got[i].View, want[i].View)
		same(t, fmt.Sprint(what, ": Sum ", i), got[i].Sum, want[i].Sum)
	}
}

func sameClaim(t *testing.T, what string, got, want claim) {
	t.Helper()
	is(t, what+": From", got.From, want.From)
	is(t, what+": Low", got.Low, want.Low)
	same(t, what+": Low0", got.Low0, want.Low0)
	samePres(t, what+": Pres", got.Pres, want.Pres)
}

// reads: s is right, and claims that.
func reads(t *testing.T, what string, f int, s signed, j choose.Judge, want claim, wantView uint64) {
	t.Helper()
	c, view, k := choose.Read(f, s, j)
	is(t, what+": Read", k, api.OK)
	is(t, what+": the view", view, wantView)
	sameClaim(t, what, c, want)
}

// readsNot: s is answered by want, and by nothing else.
func readsNot(t *testing.T, what string, f int, s signed, j choose.Judge, want api.Kind) {
	t.Helper()
	c, view, k := choose.Read(f, s, j)
	is(t, what+": Read", k, want)
	is(t, what+": the view", view, 0)
	sameClaim(t, what, c, claim{})
}

// spoil: writes over all of some memory, spare room too.
func spoil(b []byte) {
	b = b[:cap(b)]
	for i := range b {
		b[i] ^= 0xff
	}
}

func spoilPres(l []pre) {
	l = l[:cap(l)]
	for i := range l {
		spoil(l[i].Sum)
		l[i] = pre{Seq: 99, View: 99}
	}
}

// roomy: b in memory with spare room behind it, and a check that all of it is still as it was.
func roomy(t *testing.T, b []byte) ([]byte, func()) {
	t.Helper()
	whole := append(bytes.Clone(b), bytes.Repeat([]byte{0xa5}, 100)...)
	before := bytes.Clone(whole)
	return whole[:len(b)], func() {
		t.Helper()
		same(t, "what was handed in, and its spare room", whole, before)
	}
}

// wantPick: the chapter's words, number by number, over all that is claimed.
func wantPick(l []claim) (low uint64, picks []pre) {
	top := uint64(0)
	for _, c := range l {
		low = max(low, c.Low)
	}
	above := func(seq uint64) bool { return seq > low && seq-low <= 8 }
	for _, c := range l {
		for _, p := range c.Pres {
			if above(p.Seq) {
				top = max(top, p.Seq-low)
			}
		}
	}
	for i := uint64(1); i <= top; i++ {
		picks = append(picks, wantPre(l, low+i))
	}
	return low, picks
}

func wantPre(l []claim, seq uint64) pre {
	var all []pre
	for _, c := range l {
		for _, p := range c.Pres {
			if p.Seq == seq {
				all = append(all, p)
			}
		}
	}
	if len(all) == 0 {
		return pre{Seq: seq, Sum: null()}
	}
	// a stable sort leaves the first one that says so first
	slices.SortStableFunc(all, func(a, b pre) int {
		if a.View > b.View {
			return -1
		}
		if a.View < b.View {
			return 1
		}
		return 0
	})
	return all[0]
}

// null: the digest of the word batch and of no part, by the library's means alone.
func null() []byte {
	h := sha256.Sum256([]byte("\x05batch\x00"))
	return h[:]
}

func picks(t *testing.T, what string, f int, l []claim) {
	t.Helper()
	low, got, k := choose.Pick(f, l)
	wantLow, want := wantPick(l)
	is(t, what+": Pick", k, api.OK)
	is(t, what+": low", low, wantLow)
	samePres(t, what+": picks", got, want)
}

func picksNot(t *testing.T, what string, f int, l []claim) {
	t.Helper()
	low, got, k := choose.Pick(f, l)
	is(t, what+": Pick", k, api.BadArg)
	is(t, what+": low", low, 0)
	is(t, what+": picks", len(got), 0)
}
