package choose_test

import (
	"bytes"
	"fmt"
	"math/rand"
	"slices"
	"testing"

	"bulwark/api"
	"bulwark/choose"
	"bulwark/message"
)

// said: prepared, with a word for a sum.
func said(seq, view uint64, word string) pre {
	return pre{Seq: seq, View: view, Sum: []byte(word)}
}

// silent: claims of the first n replicas, of nothing.
func silent(n int) []claim {
	var l []claim
	for from := range uint64(n) {
		l = append(l, claim{From: from + 1})
	}
	return l
}

// claims: of the first Most replicas of f, with these things prepared by the first ones.
func claims(f int, pres ...[]pre) []claim {
	l := silent(max(2*f+1, len(pres)))
	for i := range pres {
		l[i].Pres = pres[i]
	}
	return l
}

func TestNull(t *testing.T) {
	same(t, "Null", choose.Null(), null())
	same(t, "as of a batch", choose.Null(), message.Batch([]api.Request{}))
	spoil(choose.Null())
	same(t, "behind what was written", choose.Null(), null())
}

// The chapter's example.
func TestP1602Nothing(t *testing.T) {
	for f, n := range faulty() {
		for many := 2*f + 1; many <= int(n); many++ {
			low, got, k := choose.Pick(f, silent(many))
			is(t, fmt.Sprint("Pick of ", many), k, api.OK)
			is(t, "low", low, 0)
			is(t, "picks", len(got), 0)
		}
	}
}

func TestP1602Impossible(t *testing.T) {
	for _, f := range impossible() {
		for _, many := range []int{0, 1, 3, 4, 13} {
			picksNot(t, fmt.Sprint(many, " of ", f), f, silent(many))
		}
	}
}

func TestP1602TooFew(t *testing.T) {
	for f := range faulty() {
		for many := range 2*f + 1 {
			picksNot(t, fmt.Sprint(many, " of ", f), f, silent(many))
		}
		picksNot(t, fmt.Sprint("an empty list of ", f), f, []claim{})
	}
}

// P1602: claims are of replicas that rise, whatever else is wrong or right.
func TestP1602NotRising(t *testing.T) {
	for f, n := range faulty() {
		for many := 2*f + 1; many <= int(n); many++ {
			for i := range many {
				for _, from := range []uint64{0, uint64(i), uint64(i) + 2, n + 1, n + 2, 101, 1 << 32, greatest} {
					l := silent(many)
					l[i].From = from
					l[0].Pres = []pre{said(1, 0, "a")}
					if i == many-1 && from == uint64(i)+2 && from <= n {
						picks(t, "one left out", f, l)
						continue
					}
					picksNot(t, fmt.Sprint(from, " at ", i, " of ", many, ", ", f), f, l)
				}
			}
		}
		l := silent(2*f + 1)
		slices.Reverse(l)
		picksNot(t, fmt.Sprint("falling of ", f), f, l)
		picksNot(t, fmt.Sprint("too many of ", f), f, silent(int(n)+1))
		picksNot(t, fmt.Sprint("all twice of ", f), f, append(silent(int(n)), silent(int(n))...))
	}
}

// P1602: any Most replicas, and more.
func TestP1602AnyMost(t *testing.T) {
	for f, n := range faulty() {
		for set := range uint(1) << n {
			var l []claim
			for i := range n {
				if set>>i&1 == 1 {
					l = append(l, claim{From: i + 1, Pres: []pre{said(1+i%3, i, fmt.Sprint(i))}})
				}
			}
			if len(l) < 2*f+1 {
				picksNot(t, fmt.Sprint("of ", f), f, l)
			} else {
				picks(t, fmt.Sprint("of ", f), f, l)
			}
		}
	}
}

// P1602: the greatest low mark, whoever claims it; what is not above it is left.
func TestP1602Low(t *testing.T) {
	for f := range faulty() {
		for i := range 2*f + 1 {
			l := silent(2*f + 1)
			for j := range l {
				l[j].Low = uint64(j%2) * 4
				l[j].Pres = []pre{said(uint64(j)+1, 1, fmt.Sprint("at ", j)), said(12, 0, "twelve")}
			}
			for _, low := range []uint64{0, 4, 5, 8, 11, 12, 13, 16, 1 << 40, greatest} {
				l[i].Low = low
				picks(t, fmt.Sprint(low, " at ", i, " of ", f), f, l)
			}
		}
	}
}

// P1602: numbers up to the greatest that is prepared; Null between.
func TestP1602Gaps(t *testing.T) {
	for f := range faulty() {
		for _, low := range []uint64{0, 4, 1 << 40} {
			for set := range uint(256) {
				l := silent(2*f + 1)
				l[f].Low = low
				for i := range uint64(8) {
					if set>>i&1 == 1 {
						by := i % uint64(2*f+1)
						l[by].Pres = append(l[by].Pres, said(low+i+1, i%3, fmt.Sprint("word ", i)))
					}
				}
				picks(t, fmt.Sprint(set, " above ", low, " of ", f), f, l)
			}
		}
	}
}

func TestP1602NullPicked(t *testing.T) {
	_, got, _ := choose.Pick(1, claims(1, []pre{said(3, 7, "c")}))
	samePres(t, "picks", got, []pre{{1, 0, null()}, {2, 0, null()}, said(3, 7, "c")})
}

// P1602: just the numbers above low by at most Window, where whole numbers may end too.
func TestP1602Window(t *testing.T) {
	for f := range faulty() {
		for _, low := range []uint64{0, 1, 4, 8, 100, api.MaxSeq - 8, api.MaxSeq, 1 << 63, greatest - 9, greatest - 8, greatest - 7, greatest - 1, greatest} {
			for _, near := range []uint64{0, 1, 2, 7, 8, 9, 10, 16, 17, 1 << 32, 1 << 63} {
				l := claims(f, []pre{said(low+near, 1, "a")}, []pre{said(low-near, 1, "b")}, []pre{said(low+1, 0, "c")})
				l[1].Low = low
				picks(t, fmt.Sprint(near, " about ", low, " of ", f), f, l)
			}
		}
	}
}

// P1602: what is far above the low mark makes no number longer.
func TestP1602FarAbove(t *testing.T) {
	_, got, _ := choose.Pick(1, claims(1, []pre{said(9, 5, "far"), said(greatest, 5, "far")}, []pre{said(2, 1, "b")}))
	samePres(t, "picks", got, []pre{{1, 0, null()}, said(2, 1, "b")})
	_, got, _ = choose.Pick(1, claims(1, []pre{said(8, 5, "last")}))
	is(t, "picks up to the last of the window", len(got), 8)
}

// P1602: the greatest view of a number is picked, whoever says so.
func TestP1602GreatestView(t *testing.T) {
	for _, views := range [][]uint64{{0, 1, 2}, {2, 1, 0}, {1, 2, 0}, {0, 2, 1}, {0, 0, 1}, {1, 0, 0}, {0, greatest, 1}, {1 << 63, 1<<63 - 1, 0}, {0, 1, greatest}} {
		var pres [][]pre
		want := slices.Max(views)
		for i, view := range views {
			pres = append(pres, []pre{said(1, view, fmt.Sprint("word ", i))})
		}
		_, got, _ := choose.Pick(1, claims(1, pres...))
		samePres(t, fmt.Sprint(views), got, []pre{said(1, want, fmt.Sprint("word ", slices.Index(views, want)))})
		picks(t, fmt.Sprint(views), 1, claims(1, pres...))
	}
}

// P1602: of equal views the first claim counts.
func TestP1602FirstClaim(t *testing.T) {
	for f, n := range faulty() {
		for first := range n {
			l := silent(int(n))
			for i := first; i < n; i++ {
				l[i].Pres = []pre{said(1, 3, fmt.Sprint("by ", i))}
			}
			if first > 0 {
				l[0].Pres = []pre{said(1, 2, "elder")}
			}
			_, got, _ := choose.Pick(f, l)
			samePres(t, fmt.Sprint("from ", first, " of ", f), got, []pre{said(1, 3, fmt.Sprint("by ", first))})
		}
	}
}

// P1602: of view 0 too something is said, whose sum may be empty.
func TestP1602ViewZero(t *testing.T) {
	_, got, _ := choose.Pick(1, claims(1, nil, []pre{said(1, 0, "a")}, []pre{said(1, 0, "b")}))
	samePres(t, "picks", got, []pre{said(1, 0, "a")})
	_, got, _ = choose.Pick(1, claims(1, []pre{{Seq: 1}}, []pre{said(1, 0, "b")}))
	samePres(t, "an empty sum", got, []pre{{Seq: 1}})
}

// P1602: a claim's own list need be in no order.
func TestP1602OneClaim(t *testing.T) {
	for name, pres := range map[string][]pre{
		"falling":            {said(3, 1, "c"), said(2, 1, "b"), said(1, 1, "a")},
		"twice, rising view": {said(1, 0, "a"), said(1, 1, "b")},
		"twice, falling":     {said(1, 1, "a"), said(1, 0, "b")},
		"twice, equal":       {said(1, 1, "a"), said(1, 1, "b")},
		"apart":              {said(2, 1, "a"), said(1, 9, "x"), said(2, 2, "b"), said(2, 2, "c")},
	} {
		for f := range faulty() {
			for i := range 2*f + 1 {
				l := silent(2*f + 1)
				l[i].Pres = pres
				picks(t, fmt.Sprint(name, " at ", i, " of ", f), f, l)
			}
		}
	}
}

// P1602: sums of states, and who claims, change nothing.
func TestP1602Low0(t *testing.T) {
	l := claims(1, []pre{said(5, 1, "a")})
	l[0].Low0, l[1].Low0 = []byte("one"), []byte("other")
	l[1].Low = 4
	picks(t, "with sums", 1, l)
}

// P1602: what is handed in is not changed, and what is handed out is new memory.
func TestP1602Memory(t *testing.T) {
	word, stays := roomy(t, []byte("a"))
	pres := make([]pre, 2, 6)
	pres[0], pres[1] = pre{1, 1, word}, pre{3, 1, word}
	l := append(make([]claim, 0, 6), claims(1, pres)...)
	l[1].Pres = []pre{{3, 0, word}}
	before := fmt.Sprintf("%v %v", l[:6], pres[:6])
	_, first, _ := choose.Pick(1, l)
	_, second, _ := choose.Pick(1, l)
	want := []pre{said(1, 1, "a"), {2, 0, null()}, said(3, 1, "a")}
	spoilPres(second)
	stays()
	is(t, "what was handed in", fmt.Sprintf("%v %v", l[:6], pres[:6]), before)
	samePres(t, "behind what was written elsewhere", first, want)
	spoil(word)
	l[0].Pres[0] = pre{}
	samePres(t, "behind what was written into the claims", first, want)
	spoil(first[0].Sum)
	same(t, "an equal sum beside", first[2].Sum, []byte("a"))
}

// some: claims by chance, of few numbers, views and words, so that they meet.
func some(source *rand.Rand, f int) []claim {
	var l []claim
	n := int(faulty()[f])
	for _, i := range source.Perm(n)[:2*f+1+source.Intn(f+1)] {
		c := claim{From: uint64(i) + 1, Low: uint64(source.Intn(3)) * 4, Low0: []byte{byte(i)}}
		for range source.Intn(6) {
			c.Pres = append(c.Pres, said(uint64(source.Intn(20)), uint64(source.Intn(4)), string(rune('a'+source.Intn(3)))))
		}
		l = append(l, c)
	}
	slices.SortFunc(l, func(a, b claim) int { return int(a.From) - int(b.From) })
	return l
}

func TestP1602Scripts(t *testing.T) {
	for f := range faulty() {
		for seed := range int64(300) {
			picks(t, fmt.Sprint("script ", seed, " of ", f), f, some(rand.New(rand.NewSource(seed)), f))
		}
	}
}

// P1603: what Weak claims say to be prepared in a view is picked, if none says otherwise there, or above.
func TestP1603Weak(t *testing.T) {
	for f, n := range faulty() {
		for seed := range int64(200) {
			source := rand.New(rand.NewSource(seed))
			view, seq := uint64(1+source.Intn(5)), uint64(1+source.Intn(8))
			l := silent(2*f + 1 + source.Intn(f+1))
			for _, i := range source.Perm(len(l)) {
				if i%2 == 0 && source.Intn(2) == 0 {
					l[i].Pres = []pre{said(seq, uint64(source.Intn(int(view))), "elder")}
				}
			}
			for _, i := range source.Perm(len(l))[:f+1] {
				l[i].Pres = append(l[i].Pres, said(seq, view, "picked"))
			}
			_, got, _ := choose.Pick(f, l)
			is(t, fmt.Sprint("seed ", seed, " of ", n), len(got), int(seq))
			samePres(t, fmt.Sprint("seed ", seed, " of ", n), got[seq-1:], []pre{said(seq, view, "picked")})
		}
	}
}

// P1603: the order of claims changes nothing but by equal views.
func TestP1603Order(t *testing.T) {
	for f := range faulty() {
		for seed := range int64(200) {
			source := rand.New(rand.NewSource(seed))
			l := some(source, f)
			for i := range l {
				for j := range l[i].Pres {
					// each view of a number says one thing
					p := &l[i].Pres[j]
					p.Sum = fmt.Append(nil, p.Seq, " in ", p.View)
				}
			}
			low, want, _ := choose.Pick(f, l)
			var other []claim
			for to, i := range source.Perm(len(l)) {
				c := l[i]
				c.From = l[to].From
				other = append(other, c)
			}
			got, picked, k := choose.Pick(f, other)
			is(t, "Pick", k, api.OK)
			is(t, "low", got, low)
			samePres(t, fmt.Sprint("seed ", seed, " of ", f), picked, want)
		}
	}
}

// P1602: what was asked ahead changes nothing.
func TestP1602Again(t *testing.T) {
	l := some(rand.New(rand.NewSource(7)), 2)
	_, first, _ := choose.Pick(2, l)
	choose.Pick(2, some(rand.New(rand.NewSource(8)), 2))
	choose.Pick(1, nil)
	_, second, _ := choose.Pick(2, l)
	samePres(t, "again", second, first)
	is(t, "something was picked", len(first) > 0 && bytes.Equal(first[0].Sum, second[0].Sum), true)
}
