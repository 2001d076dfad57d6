package slots_test

import (
	"bytes"
	"fmt"
	"maps"
	"math"
	"slices"
	"testing"

	"bulwark/api"
	"bulwark/message"
	"bulwark/slots"
)

type signed = message.Signed

const greatest = math.MaxUint64

func is[T comparable](t *testing.T, what string, got, want T) {
	t.Helper()
	if got != want {
		t.Errorf("%s: %#v, not %#v", what, got, want)
	}
}

func same(t *testing.T, what string, got, want []byte) {
	t.Helper()
	if !bytes.Equal(got, want) {
		t.Errorf("%s: %.100q, not %.100q", what, got, want)
	}
}

func alike(a, b []signed) bool {
	return slices.EqualFunc(a, b, func(s, u signed) bool {
		return s.From == u.From && bytes.Equal(s.B, u.B) && bytes.Equal(s.Tag, u.Tag)
	})
}

// faulty: each f that can be, and how many replicas there are.
func faulty() map[int]uint64 {
	return map[int]uint64{1: 4, 2: 7, 3: 10, 4: 13}
}

// impossible: f that can't be.
func impossible() []int {
	return []int{0, 5, 6, -1, -4, 255, 256, 257, 1 << 32, 1<<32 + 1, math.MaxInt, math.MaxInt / 2, math.MaxInt/3 + 1, math.MinInt, math.MinInt + 1}
}

// What a log can be told of a number.
const (
	pre     = "Pre"
	prepare = "Prepare"
	commit  = "Commit"
)

func kinds() []string {
	return []string{pre, prepare, commit}
}

// step: one text that comes.
type step struct {
	kind string
	s    signed
	seq  uint64
	sum  string
}

// by: the step of a replica, with a text that no other step of a view has.
func by(kind string, from, seq uint64, sum string) step {
	text := fmt.Sprintf("%s of %d, %d: %.40q", kind, from, seq, sum)
	return step{kind, signed{From: from, B: []byte(text), Tag: []byte("tag of " + text)}, seq, sum}
}

// again: the same step with another text.
func (x step) again(text string) step {
	x.s = signed{From: x.s.From, B: []byte(text), Tag: []byte("tag of " + text)}
	return x
}

func (x step) String() string {
	return fmt.Sprintf("%s of %d, %d, %.40q", x.kind, x.s.From, x.seq, x.sum)
}

func tell(l *slots.Log, kind string, s signed, seq uint64, sum []byte) api.Kind {
	switch kind {
	case pre:
		return l.Pre(s, seq, sum)
	case prepare:
		return l.Prepare(s, seq, sum)
	}
	return l.Commit(s, seq, sum)
}

// cert: of the model.
type cert struct {
	view  uint64
	sum   string
	texts []signed
}

// model: the chapter's words over a plain list of what counts in the view.
type model struct {
	f         int
	low, view uint64
	counts    []step
	certs     map[uint64]cert
}

func modelOf(f int) *model {
	return &model{f: f, certs: map[uint64]cert{}}
}

func (m *model) replicas() uint64 { return uint64(3*m.f + 1) }
func (m *model) primary() uint64  { return m.view%m.replicas() + 1 }

// of: what counts of a kind and a number.
func (m *model) of(kind string, seq uint64) []step {
	var out []step
	for _, x := range m.counts {
		if x.kind == kind && x.seq == seq {
			out = append(out, x)
		}
	}
	return out
}

// votes: the texts for a sum, replicas rising.
func (m *model) votes(kind string, seq uint64, sum string) []signed {
	var out []signed
	for _, x := range m.of(kind, seq) {
		if x.sum == sum {
			out = append(out, x.s)
		}
	}
	slices.SortFunc(out, func(a, b signed) int { return int(a.From) - int(b.From) })
	return out
}

func (m *model) sum(seq uint64) (string, bool) {
	l := m.of(pre, seq)
	if len(l) == 0 {
		return "", false
	}
	return l[0].sum, true
}

func (m *model) prepared(seq uint64) bool {
	sum, has := m.sum(seq)
	return has && len(m.votes(prepare, seq, sum)) >= 2*m.f
}

func (m *model) committed(seq uint64) (string, bool) {
	sum, _ := m.sum(seq)
	if !m.prepared(seq) || len(m.votes(commit, seq, sum)) < 2*m.f+1 {
		return "", false
	}
	return sum, true
}

// wants: the kind that the words ask for.
func (m *model) wants(x step) api.Kind {
	voted := slices.ContainsFunc(m.of(x.kind, x.seq), func(y step) bool { return y.s.From == x.s.From })
	sum, has := m.sum(x.seq)
	leads := x.s.From == m.primary()
	switch {
	case x.seq <= m.low || x.seq > m.low+8:
		return api.BadSeq
	case x.s.From < 1 || x.s.From > m.replicas():
		return api.Unknown
	case x.kind == pre && (!leads || has && sum != x.sum), x.kind == prepare && (leads || voted), x.kind == commit && voted:
		return api.Refused
	}
	return api.OK
}

// takes: what the words ask for, and x counts if it does.
func (m *model) takes(x step) api.Kind {
	wanted := m.wants(x)
	if _, has := m.sum(x.seq); wanted != api.OK || x.kind == pre && has {
		return wanted
	}
	was := m.prepared(x.seq)
	m.counts = append(m.counts, x)
	if !was && m.prepared(x.seq) {
		m.certify(x.seq)
	}
	return api.OK
}

// certify is asked once in a view, behind what made the number prepared.
func (m *model) certify(seq uint64) {
	x := m.of(pre, seq)[0]
	texts := append([]signed{x.s}, m.votes(prepare, seq, x.sum)[:2*m.f]...)
	m.certs[seq] = cert{m.view, x.sum, texts}
}

func (m *model) enters(view uint64) api.Kind {
	switch {
	case view > 1<<62-1:
		return api.Stopped
	case view <= m.view:
		return api.OldView
	}
	m.view, m.counts = view, nil
	return api.OK
}

func (m *model) advances(low uint64) api.Kind {
	if low < m.low || low > 1<<62-1-8 {
		return api.BadSeq
	}
	m.low = low
	m.counts = slices.DeleteFunc(m.counts, func(x step) bool { return x.seq <= low })
	maps.DeleteFunc(m.certs, func(seq uint64, _ cert) bool { return seq <= low })
	return api.OK
}

// pair: a log and its model, which all that comes is told to.
type pair struct {
	l *slots.Log
	m *model
}

func made(t *testing.T, f int) pair {
	t.Helper()
	l, kind := slots.New(f)
	if l == nil || kind != api.OK {
		t.Fatalf("New of %d: %v, %v", f, l, kind)
	}
	return pair{l, modelOf(f)}
}

// comes: the log is told, and answers what the words ask for.
func (p pair) comes(t *testing.T, steps ...step) {
	t.Helper()
	for _, x := range steps {
		is(t, x.String(), tell(p.l, x.kind, x.s, x.seq, []byte(x.sum)), p.m.takes(x))
	}
}

// counts: they come, and each of them is taken.
func (p pair) counts(t *testing.T, steps ...step) {
	t.Helper()
	for _, x := range steps {
		is(t, x.String()+" may come", p.m.wants(x), api.OK)
		p.comes(t, x)
	}
}

// refuses: the step is answered by want, and nothing has changed.
func (p pair) refuses(t *testing.T, want api.Kind, steps ...step) {
	t.Helper()
	for _, x := range steps {
		is(t, x.String(), tell(p.l, x.kind, x.s, x.seq, []byte(x.sum)), want)
		is(t, x.String()+" by the words", p.m.wants(x), want)
		p.holds(t, "behind "+x.String())
	}
}

func (p pair) enters(t *testing.T, view uint64, want api.Kind) {
	t.Helper()
	is(t, fmt.Sprint("Enter of ", view), p.l.Enter(view), want)
	is(t, fmt.Sprint("Enter by the words of ", view), p.m.enters(view), want)
}

func (p pair) advances(t *testing.T, low uint64, want api.Kind) {
	t.Helper()
	is(t, fmt.Sprint("Advance to ", low), p.l.Advance(low), want)
	is(t, fmt.Sprint("Advance by the words to ", low), p.m.advances(low), want)
}

// asked: the numbers about the marks, and far from them.
func asked(low uint64) []uint64 {
	out := []uint64{0, 1, 8, 9, 255, 256, 1 << 32, api.MaxSeq - 8, api.MaxSeq, api.MaxSeq + 1, 1 << 63, greatest - 1, greatest, low - 9, low - 8, low - 1}
	for seq := range uint64(18) {
		out = append(out, low+seq)
	}
	return out
}

// holds: all that can be asked of the log is as the words say.
func (p pair) holds(t *testing.T, what string) {
	t.Helper()
	is(t, what+": Low", p.l.Low(), p.m.low)
	is(t, what+": View", p.l.View(), p.m.view)
	for _, seq := range asked(p.m.low) {
		p.holdsOf(t, fmt.Sprint(what, ": of ", seq), seq)
	}
	p.holdsCerts(t, what)
}

// holdsOf: of one number.
func (p pair) holdsOf(t *testing.T, what string, seq uint64) {
	t.Helper()
	sum, has := p.l.Sum(seq)
	wantSum, wantHas := p.m.sum(seq)
	is(t, what+": Sum", has, wantHas)
	same(t, what+": Sum's sum", sum, []byte(wantSum))
	is(t, what+": Prepared", p.l.Prepared(seq), p.m.prepared(seq))
	sum, has = p.l.Committed(seq)
	wantSum, wantHas = p.m.committed(seq)
	is(t, what+": Committed", has, wantHas)
	same(t, what+": Committed's sum", sum, []byte(wantSum))
	view, sum, has := p.l.Best(seq)
	c, wantHas := p.m.certs[seq]
	is(t, what+": Best", has, wantHas)
	is(t, what+": Best's view", view, c.view)
	same(t, what+": Best's sum", sum, []byte(c.sum))
}

func (p pair) holdsCerts(t *testing.T, what string) {
	t.Helper()
	got := p.l.Certs()
	if len(got) != len(p.m.certs) {
		t.Errorf("%s: %d certificates, not %d", what, len(got), len(p.m.certs))
		return
	}
	for i, seq := range slices.Sorted(maps.Keys(p.m.certs)) {
		want := p.m.certs[seq].texts
		if !alike(got[i], want) {
			t.Errorf("%s: the certificate of %d: %.400s, not %.400s", what, seq, fmt.Sprint(got[i]), fmt.Sprint(want))
		}
	}
}

// cert: the first certificate that is told.
func (p pair) cert(t *testing.T) []signed {
	t.Helper()
	certs := p.l.Certs()
	if len(certs) == 0 || len(certs[0]) != 2*p.m.f+1 {
		t.Fatalf("no certificate of %d texts: %.400s", 2*p.m.f+1, fmt.Sprint(certs))
	}
	return certs[0]
}

// backups: the first n replicas that don't lead the view.
func (p pair) backups(n int) []uint64 {
	var out []uint64
	for from := uint64(1); len(out) < n; from++ {
		if from != p.m.primary() {
			out = append(out, from)
		}
	}
	return out
}

// toPrepared: what makes a number prepared, the pre-prepare first.
func (p pair) toPrepared(seq uint64, sum string) []step {
	out := []step{by(pre, p.m.primary(), seq, sum)}
	for _, from := range p.backups(2 * p.m.f) {
		out = append(out, by(prepare, from, seq, sum))
	}
	return out
}

// toCommitted: and committed.
func (p pair) toCommitted(seq uint64, sum string) []step {
	out := p.toPrepared(seq, sum)
	for from := range uint64(2*p.m.f + 1) {
		out = append(out, by(commit, from+1, seq, sum))
	}
	return out
}

// sums: some begin one another; that of nothing stands for nil too.
func sums() []string {
	sum := string(bytes.Repeat([]byte("s"), 32))
	long := string(bytes.Repeat([]byte("l"), 70000))
	return []string{"", "\x00", "\x00\x00", "a", "ab", "a\x00", "\xff", "é", sum, sum[:31], sum + "s", long, long[1:] + "k"}
}

// spoil: writes over all of some memory, spare room too.
func spoil(b []byte) {
	b = b[:cap(b)]
	for i := range b {
		b[i] ^= 0xff
	}
}

func spoilTexts(l []signed) {
	for _, s := range l {
		spoil(s.B)
		spoil(s.Tag)
	}
	l = l[:cap(l)]
	for i := range l {
		l[i] = signed{From: 99}
	}
}

// roomy: b in memory with spare room behind it, and a check that all of it is still as it was.
func roomy(t *testing.T, b []byte) ([]byte, func()) {
	t.Helper()
	whole := append(bytes.Clone(b), bytes.Repeat([]byte{0xa5}, 100)...)
	before := bytes.Clone(whole)
	return whole[:len(b)], func() {
		t.Helper()
		same(t, "what was handed in, and its spare room", whole, before)
	}
}
