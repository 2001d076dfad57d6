package choose_test

import (
	"fmt"
	"testing"

	"bulwark/choose"
	"bulwark/seal"
	"bulwark/slots"
)

// P1601: a replica that has nothing claims nothing.
func TestP1601Empty(t *testing.T) {
	for f, n := range faulty() {
		for from := uint64(1); from <= n; from++ {
			for _, view := range []uint64{1, 2, n - 1, n, n + 1, 1 << 32, mostView - 1, mostView} {
				s := changeOf(t, f, from, view, 0).sign(t)
				reads(t, fmt.Sprint(from, " of ", f, " to ", view), f, s, court{}, wantClaim(from, 0), view)
			}
		}
	}
}

// P1601: low marks are multiples of Every, up to the last one that leaves a window.
func TestP1601Low(t *testing.T) {
	for f := range faulty() {
		for _, low := range []uint64{4, 8, 12, 256, 1 << 32, mostLow - 4, mostLow} {
			s := changeOf(t, f, 2, 3, low).sign(t)
			reads(t, fmt.Sprint(low, " of ", f), f, s, court{}, wantClaim(2, low), 3)
		}
	}
}

// P1601: any Most replicas prove a low mark.
func TestP1601LowByAny(t *testing.T) {
	for f, n := range faulty() {
		x := body{Kind: aCheckpoint, Seq: 4, Sum: sum("state")}
		all := sayAll(t, upTo(int(n)), x)
		for out := range f + 1 {
			// without as many of the first ones, and without the last ones
			c := changeOf(t, f, 1, 1, 4)
			c.x.Cert = all[out : out+2*f+1]
			reads(t, fmt.Sprint("without ", out, " of ", f), f, c.sign(t), court{}, wantClaim(1, 4), 1)
		}
	}
}

// P1601: what is prepared, of each number of the window, and gaps.
func TestP1601Prepared(t *testing.T) {
	for f := range faulty() {
		for _, low := range []uint64{0, 4, mostLow} {
			var all []pre
			for i := uint64(1); i <= 8; i++ {
				one := prepared(low+i, i%3, fmt.Sprint("word ", i))
				all = append(all, one)
				s := changeOf(t, f, 4, 3, low, one).sign(t)
				reads(t, fmt.Sprint(i, " above ", low, " of ", f), f, s, court{}, wantClaim(4, low, one), 3)
			}
			for _, l := range [][]pre{all, all[1:], all[3:5], {all[0], all[2], all[7]}, {all[6], all[7]}} {
				s := changeOf(t, f, 4, 3, low, l...).sign(t)
				reads(t, fmt.Sprint(len(l), " above ", low, " of ", f), f, s, court{}, wantClaim(4, low, l...), 3)
			}
		}
	}
}

// P1601: certificates are of any view below the one that is changed to, each of its own primary.
func TestP1601CertificateViews(t *testing.T) {
	for f, n := range faulty() {
		for view := uint64(1); view <= n+1; view++ {
			for old := range view {
				p := prepared(1, old, "a")
				s := changeOf(t, f, 1, view, 0, p).sign(t)
				reads(t, fmt.Sprint(old, " below ", view, " of ", f), f, s, court{}, wantClaim(1, 0, p), view)
			}
		}
		for _, old := range []uint64{0, 1, 1 << 32, mostView - 1} {
			p := prepared(8, old, "a")
			s := changeOf(t, f, 1, mostView, 0, p).sign(t)
			reads(t, fmt.Sprint(old, " of ", f), f, s, court{}, wantClaim(1, 0, p), mostView)
		}
	}
}

// P1601: any 2 f replicas that don't lead prepare.
func TestP1601CertificateByAny(t *testing.T) {
	for f, n := range faulty() {
		for view := range n {
			all := backups(f, view, int(n)-1)
			for out := range f + 1 {
				c := changeOf(t, f, 1, view+1, 0)
				c.x.Sets = [][]signed{certBy(t, primaryOf(view, f), all[out:out+2*f], 3, view, "a")}
				want := wantClaim(1, 0, prepared(3, view, "a"))
				reads(t, fmt.Sprint("without ", out, " of ", f), f, c.sign(t), court{}, want, view+1)
			}
		}
	}
}

// P1601: a certificate of nothing is one.
func TestP1601NullPrepared(t *testing.T) {
	c := changeOf(t, 1, 1, 1, 0)
	x := body{Kind: aPrePrepare, Seq: 1, Sum: choose.Null()}
	first := say(t, 1, x)
	x.Kind = aPrepare
	c.x.Sets = [][]signed{append([]signed{first}, sayAll(t, []uint64{3, 4}, x)...)}
	want := claim{From: 1, Pres: []pre{{Seq: 1, Sum: null()}}}
	reads(t, "of no request", 1, c.sign(t), court{}, want, 1)
}

// P1601: a book is a judge, and a log's certificates are right ones.
func TestP1601BookAndLog(t *testing.T) {
	for _, real := range []bool{true, false} {
		for f, n := range faulty() {
			book, _ := seal.New(real, []byte("master"), upTo(int(n)))
			tell := func(from uint64, x body) signed {
				b := put(t, x)
				tag, _ := book.Tag(from, b)
				return signed{From: from, B: b, Tag: tag}
			}
			l, _ := slots.New(f)
			l.Enter(2)
			x := body{Kind: aPrePrepare, View: 2, Seq: 5, Sum: sum("a")}
			l.Pre(tell(primaryOf(2, f), x), x.Seq, x.Sum)
			x.Kind = aPrepare
			for _, from := range backups(f, 2, int(n)-1) {
				l.Prepare(tell(from, x), x.Seq, x.Sum)
			}
			s := tell(2, body{Kind: aViewChange, View: 3, Sets: l.Certs()})
			reads(t, fmt.Sprint("of a log of ", f), f, s, book, wantClaim(2, 0, prepared(5, 2, "a")), 3)
			s.Tag[31] ^= 1
			readsNot(t, fmt.Sprint("with another tag of ", f), f, s, book, badTag)
		}
	}
}
