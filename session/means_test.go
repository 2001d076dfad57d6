package session_test

import (
	"bytes"
	"crypto/sha256"
	"encoding/binary"
	"fmt"
	"math"
	"slices"
	"strings"
	"testing"

	"bulwark/api"
	"bulwark/session"
)

const greatest = math.MaxUint64

func is[T comparable](t *testing.T, what string, got, want T) {
	t.Helper()
	if got != want {
		t.Errorf("%s: %#v, not %#v", what, got, want)
	}
}

func same(t *testing.T, what string, got, want []byte) {
	t.Helper()
	if !bytes.Equal(got, want) {
		t.Errorf("%s: %v, not %v", what, got, want)
	}
}

func join(parts ...[]byte) []byte {
	return slices.Concat(parts...)
}

// number, text, truth: forms of layer 1, by the library's means alone.
func number[T int | uint64 | api.Kind](n T) []byte {
	return binary.AppendUvarint(nil, uint64(n))
}

func text[T string | []byte](x T) []byte {
	return append(number(len(x)), x...)
}

func truth(is bool) []byte {
	if is {
		return []byte{1}
	}
	return []byte{0}
}

// formOfResult: as chapter 6 tells it, of any result, right or not.
func formOfResult(r api.Result) []byte {
	form := join(number(r.E), number(len(r.Cells)))
	for _, c := range r.Cells {
		form = join(form, text(c.K.Row), text(c.K.Family), text(c.K.Qual), number(c.K.Time), text(c.Value), truth(c.Gone))
	}
	return append(form, truth(r.More)...)
}

// formOfLast: of a client, with these bytes for its result's.
func formOfLast(client, stamp uint64, result []byte) []byte {
	return join(number(client), number(stamp), text(result))
}

// formOf: the bytes as the chapter tells them, of any clients.
func formOf(l []session.Last) []byte {
	form := number(len(l))
	for _, x := range l {
		form = append(form, formOfLast(x.Client, x.Stamp, formOfResult(x.R))...)
	}
	return form
}

func sumOf(l []session.Last) []byte {
	sum := sha256.Sum256(join(text("session"), number(1), text(formOf(l))))
	return sum[:]
}

func sameResult(t *testing.T, what string, got, want api.Result) {
	t.Helper()
	same(t, what, formOfResult(got), formOfResult(want))
}

func key(row, family, qual string, time uint64) api.Key {
	return api.Key{Row: row, Family: family, Qual: qual, Time: time}
}

func with(row, value string) api.Cell {
	return api.Cell{K: key(row, "f", "q", 7), Value: []byte(value)}
}

func long(size int) string {
	return strings.Repeat("n", size)
}

// cells: as many, each of a row of its own.
func cells(count int) []api.Cell {
	var out []api.Cell
	for i := range count {
		out = append(out, with(fmt.Sprint("row ", i), fmt.Sprint("value ", i)))
	}
	return out
}

// full: the result that has more bytes than any other.
func full() api.Result {
	c := api.Cell{K: key(long(32), long(32), long(32), greatest), Value: []byte(long(256)), Gone: true}
	return api.Result{E: api.Refused, Cells: slices.Repeat([]api.Cell{c}, 16), More: true}
}

// results: that have bytes.
func results() []api.Result {
	out := []api.Result{
		{}, {More: true}, {Cells: []api.Cell{}}, {E: api.Missing, More: true},
		{Cells: []api.Cell{with("a", "v")}}, {Cells: []api.Cell{with("a", "")}, More: true},
		{Cells: []api.Cell{{K: key("\x00", "\xff", "", 0), Value: []byte{}, Gone: true}, with("a", "\x00\x80\xff")}},
		{E: api.Full, Cells: cells(2)}, {Cells: cells(15)}, {Cells: cells(16), More: true}, full(),
	}
	for e := api.OK; e <= api.Refused; e++ {
		out = append(out, api.Result{E: e})
	}
	return out
}

// noResults: that have no bytes.
func noResults() map[string]api.Result {
	return map[string]api.Result{
		"E 19":           {E: 19},
		"E 100":          {E: 100},
		"E below 0":      {E: -1},
		"the greatest E": {E: math.MaxInt},
		"the least E":    {E: math.MinInt},
		"17 cells":       {Cells: cells(17)},
		"many cells":     {Cells: cells(1000), More: true},
		"no row":         {Cells: []api.Cell{{K: key("", "f", "q", 1)}}},
		"no family":      {Cells: []api.Cell{with("a", "v"), {K: key("r", "", "q", 1)}}},
		"a long row":     {Cells: []api.Cell{{K: key(long(33), "f", "q", 1)}}},
		"a long family":  {Cells: []api.Cell{{K: key("r", long(33), "q", 1)}}},
		"a long qual":    {Cells: []api.Cell{{K: key("r", "f", long(33), 1)}}},
		"a long value":   {Cells: append(cells(15), with("a", long(257)))},
	}
}

func made(t *testing.T, clients ...uint64) *session.Table {
	t.Helper()
	x, kind := session.New(clients)
	is(t, fmt.Sprint("New of ", clients), kind, api.OK)
	return x
}

// atFirst: what a table of these clients is at first.
func atFirst(clients ...uint64) []session.Last {
	var out []session.Last
	for _, client := range clients {
		out = append(out, session.Last{Client: client})
	}
	return out
}

func puts(t *testing.T, x *session.Table, client, stamp uint64, r api.Result) {
	t.Helper()
	is(t, fmt.Sprintf("Put of %d, %d", client, stamp), x.Put(client, stamp, r), api.OK)
}

func asks(t *testing.T, what string, x *session.Table, client, stamp uint64, want api.Result) {
	t.Helper()
	r, kind := x.Ask(client, stamp)
	is(t, fmt.Sprintf("%s: Ask of %d, %d", what, client, stamp), kind, api.OK)
	sameResult(t, fmt.Sprintf("%s: Ask of %d, %d", what, client, stamp), r, want)
}

// asksNot: why not, and the zero result beside it.
func asksNot(t *testing.T, what string, x *session.Table, client, stamp uint64, want api.Kind) {
	t.Helper()
	r, kind := x.Ask(client, stamp)
	is(t, fmt.Sprintf("%s: Ask of %d, %d", what, client, stamp), kind, want)
	sameResult(t, what+": beside a kind", r, api.Result{})
}

// holds: all that can be asked of a table is as these say.
func holds(t *testing.T, what string, x *session.Table, want []session.Last) {
	t.Helper()
	if x == nil {
		t.Errorf("%s: no table", what)
		return
	}
	same(t, what+": All", formOf(x.All()), formOf(want))
	same(t, what+": Bytes", x.Bytes(), formOf(want))
	same(t, what+": Sum", x.Sum(), sumOf(want))
	for _, l := range want {
		asks(t, what, x, l.Client, l.Stamp, l.R)
		if l.Stamp > 0 {
			asksNot(t, what, x, l.Client, l.Stamp-1, api.Stale)
			asksNot(t, what, x, l.Client, 0, api.Stale)
		}
		if l.Stamp < greatest {
			asksNot(t, what, x, l.Client, l.Stamp+1, api.Missing)
			asksNot(t, what, x, l.Client, greatest, api.Missing)
		}
	}
	isNone := func(client uint64) bool {
		return !slices.ContainsFunc(want, func(l session.Last) bool { return l.Client == client })
	}
	for _, client := range []uint64{0, 1, 2, 3, 101, 1 << 63, greatest} {
		if isNone(client) {
			asksNot(t, what, x, client, 0, api.Unknown)
			asksNot(t, what, x, client, 1, api.Unknown)
		}
	}
}

// read, notRead: a table of these bytes; none, and why.
func read(t *testing.T, what string, b []byte, want []session.Last) {
	t.Helper()
	x, kind := session.Read(b)
	is(t, what+": Read", kind, api.OK)
	holds(t, what, x, want)
}

func notRead(t *testing.T, what string, b []byte, want api.Kind) {
	t.Helper()
	x, kind := session.Read(b)
	is(t, what+": Read", kind, want)
	is(t, what+": the table", x, nil)
}

// tables: what tables may be, of many kinds.
func tables() map[string][]session.Last {
	every := func(of func(i int, l *session.Last), clients ...uint64) []session.Last {
		out := atFirst(clients...)
		for i := range out {
			of(i, &out[i])
		}
		return out
	}
	all := results()
	return map[string][]session.Last{
		"one at first":   atFirst(1),
		"the greatest":   atFirst(greatest),
		"two at first":   atFirst(101, 102),
		"eight at first": atFirst(1, 2, 3, 4, 5, 6, 7, 8),
		"one":            {{Client: 1, Stamp: 5, R: api.Result{E: api.Missing}}},
		"a zero result":  {{Client: 1, Stamp: 1}, {Client: 2}, {Client: 300, Stamp: greatest}},
		"some":           {{Client: 101, Stamp: 127, R: all[5]}, {Client: 128}, {Client: 1 << 63, Stamp: 128, R: all[6]}},
		"eight, full":    every(func(_ int, l *session.Last) { l.Stamp, l.R = greatest, full() }, greatest-7, greatest-6, greatest-5, greatest-4, greatest-3, greatest-2, greatest-1, greatest),
		"eight kinds":    every(func(i int, l *session.Last) { l.Stamp, l.R = uint64(i+1), all[i] }, 1, 3, 9, 27, 81, 243, 729, 2187),
		"other kinds":    every(func(i int, l *session.Last) { l.Stamp, l.R = 1<<(8*i), all[len(all)-1-i] }, 2, 4, 8, 16, 32, 64, 128, 256),
	}
}

// laid: a table of these, by New and Put.
func laid(t *testing.T, l []session.Last) *session.Table {
	t.Helper()
	var clients []uint64
	for _, x := range l {
		clients = append(clients, x.Client)
	}
	out := made(t, clients...)
	for _, x := range l {
		if x.Stamp > 0 {
			puts(t, out, x.Client, x.Stamp, x.R)
		}
	}
	return out
}

// spoil: all that there is in a result, spare room too.
func spoil(r *api.Result) {
	room := r.Cells[:cap(r.Cells)]
	for i := range room {
		value := room[i].Value[:cap(room[i].Value)]
		for j := range value {
			value[j] = 99
		}
		room[i] = with("spoilt", "spoilt")
	}
	r.E, r.More = api.Stopped, !r.More
}

// roomy: the same result, its lists with room behind them that must stay as it is.
func roomy(r api.Result) api.Result {
	room := append(slices.Clone(r.Cells), with("behind", "1"), with("behind", "2"))
	for i, c := range room {
		room[i].Value = append(bytes.Clone(c.Value), 77, 78, 79)[:len(c.Value)]
	}
	r.Cells = room[:len(r.Cells)]
	return r
}

// seen: all that there is in a result, spare room too.
func seen(r api.Result) string {
	var out []string
	for _, c := range r.Cells[:cap(r.Cells)] {
		out = append(out, fmt.Sprintf("%+v %v %d", c.K, c.Gone, c.Value[:cap(c.Value)]))
	}
	return fmt.Sprint(r.E, len(r.Cells), r.More, out)
}
