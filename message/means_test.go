package message_test

import (
	"bytes"
	"encoding/binary"
	"fmt"
	"math"
	"slices"
	"strings"
	"testing"

	"bulwark/api"
	"bulwark/message"
)

type (
	body   = message.Body
	signed = message.Signed
)

// The kinds, by the chapter's names.
const (
	aRequest    = 1
	aPrePrepare = 2
	aPrepare    = 3
	aCommit     = 4
	aReply      = 5
	aCheckpoint = 6
	aViewChange = 7
	aNewView    = 8
	aFetch      = 9
	aState      = 10
	aNeed       = 11
	aBatch      = 12
	anAsk       = 13
	aShown      = 14
)

const (
	greatest = math.MaxUint64
	most     = 1<<62 - 1 // MaxView, MaxSeq
)

func is[T comparable](t *testing.T, what string, got, want T) {
	t.Helper()
	if got != want {
		t.Errorf("%s: %#v, not %#v", what, got, want)
	}
}

func same(t *testing.T, what string, got, want []byte) {
	t.Helper()
	if !bytes.Equal(got, want) {
		t.Errorf("%s: %s, not %s", what, brief(got), brief(want))
	}
}

func brief(b []byte) string {
	if len(b) <= 200 {
		return fmt.Sprint(b)
	}
	return fmt.Sprintf("%d bytes: %v ..", len(b), b[:200])
}

func join(parts ...[]byte) []byte {
	return slices.Concat(parts...)
}

// number, text, truth: forms of layer 1, by the library's means alone.
func number[T int | uint64 | api.Kind](n T) []byte {
	return binary.AppendUvarint(nil, uint64(n))
}

func text[T string | []byte](x T) []byte {
	return append(number(len(x)), x...)
}

func truth(is bool) []byte {
	if is {
		return []byte{1}
	}
	return []byte{0}
}

func formOfKey(k api.Key) []byte {
	return join(text(k.Row), text(k.Family), text(k.Qual), number(k.Time))
}

// The forms of chapter 6, of any operation, request, result, right or not.
func formOfOp(o api.Op) []byte {
	form := join(number(o.Kind), formOfKey(o.K), text(o.To), text(o.Value), text(o.Want), truth(o.Has), number(len(o.Sub)))
	for _, part := range o.Sub {
		form = append(form, formOfOp(part)...)
	}
	return form
}

func formOfRequest(q api.Request) []byte {
	return join(number(q.Client), number(q.Stamp), formOfOp(q.O))
}

func formOfResult(r api.Result) []byte {
	form := join(number(r.E), number(len(r.Cells)))
	for _, c := range r.Cells {
		form = join(form, formOfKey(c.K), text(c.Value), truth(c.Gone))
	}
	return append(form, truth(r.More)...)
}

func formOfReply(y api.Reply) []byte {
	return join(number(y.Client), number(y.Stamp), number(y.View), text(formOfResult(y.R)))
}

func formOfTexts(l []signed) []byte {
	parts := [][]byte{number(len(l))}
	for _, s := range l {
		parts = append(parts, number(s.From), text(s.B), text(s.Tag))
	}
	return join(parts...)
}

// formOf: the bytes as the chapter tells them, of any body, right or not: a reply's part stands in Kind 5 alone.
func formOf(x body) []byte {
	parts := [][]byte{number(x.Kind), number(x.View), number(x.Seq), text(x.Sum), number(len(x.Reqs))}
	for _, q := range x.Reqs {
		parts = append(parts, text(formOfRequest(q)))
	}
	if x.Kind == aReply {
		parts = append(parts, formOfReply(x.Reply))
	}
	parts = append(parts, formOfTexts(x.Cert), number(len(x.Sets)))
	for _, set := range x.Sets {
		parts = append(parts, formOfTexts(set))
	}
	return join(parts...)
}

// wholly: all that there is in a body, for holding bodies against one another; a reply of every Kind is in it.
func wholly(x body) []byte {
	return join(formOf(x), formOfReply(x.Reply))
}

func key(row, family, qual string, time uint64) api.Key {
	return api.Key{Row: row, Family: family, Qual: qual, Time: time}
}

func long(size int) string {
	return strings.Repeat("n", size)
}

// fill: as many bytes, that are not all alike.
func fill(size int) []byte {
	out := make([]byte, size)
	for i := range out {
		out[i] = byte(7*i + size)
	}
	return out
}

func put(row, value string) api.Op {
	return api.Op{Kind: api.Put, K: key(row, "f", "q", 3), Value: []byte(value)}
}

func scan() api.Op {
	return api.Op{Kind: api.Scan, K: api.Key{Row: "a"}, To: "z"}
}

func get() api.Op {
	return api.Op{Kind: api.Get, K: key("r", "f", "q", 0)}
}

func issued(client, stamp uint64, o api.Op) api.Request {
	return api.Request{Client: client, Stamp: stamp, O: o}
}

// fullOp: the operation with the most bytes.
func fullOp() api.Op {
	k := key(long(32), long(32), long(32), greatest)
	part := api.Op{Kind: api.Put, K: k, Value: fill(256)}
	return api.Op{Kind: api.Batch, K: api.Key{Row: long(32)}, Sub: slices.Repeat([]api.Op{part}, 8)}
}

// writing, reading: right operations of every Kind.
func writing() []api.Op {
	k := key("r", "f", "q", 7)
	return []api.Op{
		put("r", "v"), {Kind: api.DelCell, K: k}, {Kind: api.DelColumn, K: key("r", "f", "", 0)},
		{Kind: api.DelRow, K: api.Key{Row: "r"}}, {Kind: api.CheckPut, K: k, Value: []byte{0}, Has: true, Want: []byte{255, 128}},
		{Kind: api.Batch, K: api.Key{Row: "r"}, Sub: []api.Op{put("r", ""), put("r", "w")}}, fullOp(),
	}
}

func reading() []api.Op {
	return []api.Op{get(), scan(), {Kind: api.Scan}}
}

// wrongRequests: with one thing wrong each.
func wrongRequests() map[string]api.Request {
	return map[string]api.Request{
		"nothing":            {},
		"Client 0":           issued(0, 1, scan()),
		"Stamp 0":            issued(1, 0, scan()),
		"no operation":       issued(1, 1, api.Op{}),
		"a Kind 9":           issued(1, 1, api.Op{Kind: 9}),
		"a Kind below 0":     issued(1, 1, api.Op{Kind: -1}),
		"a Scan with Time":   issued(1, 1, api.Op{Kind: api.Scan, K: api.Key{Time: 1}}),
		"a Scan of a family": issued(1, 1, api.Op{Kind: api.Scan, K: api.Key{Row: "a", Family: "f"}}),
		"a long To":          issued(1, 1, api.Op{Kind: api.Scan, To: long(33)}),
		"a Get with Time":    issued(1, 1, api.Op{Kind: api.Get, K: key("r", "f", "q", 1)}),
		"a Get with parts":   issued(1, 1, api.Op{Kind: api.Get, K: key("r", "f", "q", 0), Sub: []api.Op{put("r", "v")}}),
		"a Put of no row":    issued(1, 1, put("", "v")),
		"a long value":       issued(1, 1, put("r", long(257))),
		"a Batch of none":    issued(1, 1, api.Op{Kind: api.Batch, K: api.Key{Row: "r"}}),
		"a Batch of nine":    issued(1, 1, api.Op{Kind: api.Batch, K: api.Key{Row: "r"}, Sub: slices.Repeat([]api.Op{put("r", "v")}, 9)}),
	}
}

func cells(count int) []api.Cell {
	var out []api.Cell
	for i := range count {
		out = append(out, api.Cell{K: key(fmt.Sprint("row ", i), "f", "", uint64(i)), Value: fill(i), Gone: i%3 == 1})
	}
	return out
}

// fullResult: the result that has more bytes than any other.
func fullResult() api.Result {
	c := api.Cell{K: key(long(32), long(32), long(32), greatest), Value: fill(256), Gone: true}
	return api.Result{E: api.Refused, Cells: slices.Repeat([]api.Cell{c}, 16), More: true}
}

func rightResults() []api.Result {
	return []api.Result{
		{}, {More: true}, {Cells: []api.Cell{}}, {E: api.Missing}, {E: api.Refused, More: true},
		{Cells: cells(1)}, {Cells: cells(2), More: true}, {E: api.Full, Cells: cells(16)}, fullResult(),
	}
}

// wrongResults: that have no bytes.
func wrongResults() map[string]api.Result {
	return map[string]api.Result{
		"E 19":           {E: 19},
		"E below 0":      {E: -1},
		"the greatest E": {E: math.MaxInt},
		"17 cells":       {Cells: cells(17)},
		"no row":         {Cells: []api.Cell{{K: key("", "f", "q", 1)}}},
		"no family":      {Cells: append(cells(1), api.Cell{K: key("r", "", "q", 1)})},
		"a long row":     {Cells: []api.Cell{{K: key(long(33), "f", "q", 1)}}},
		"a long value":   {Cells: []api.Cell{{K: key("r", "f", "q", 1), Value: fill(257)}}},
	}
}

func answered(client, stamp, view uint64, r api.Result) api.Reply {
	return api.Reply{Client: client, Stamp: stamp, View: view, R: r}
}

// said: a right signed text. plain: one of a state, of a shown one.
func said(from uint64, size int) signed {
	return signed{From: from, B: fill(size), Tag: fill(32)}
}

func plain(size int) signed {
	return signed{B: fill(size)}
}

// texts: as many, each another one.
func texts(count int) []signed {
	var out []signed
	for i := range count {
		out = append(out, said(uint64(i+1), i))
	}
	return out
}

func plains(count int) []signed {
	var out []signed
	for i := range count {
		out = append(out, plain(i))
	}
	return out
}

// sets: as many, of 0, 1, 2 and so on texts.
func sets(count int) [][]signed {
	var out [][]signed
	for i := range count {
		out = append(out, texts(i))
	}
	return out
}

// named: a body, and what there is to it.
type named struct {
	name string
	x    body
}

// plainBodies: one of every kind, with no more in it than it must have.
func plainBodies() []named {
	ask := []api.Request{issued(101, 1, scan())}
	return []named{
		{"request", body{Kind: aRequest, Reqs: []api.Request{issued(101, 1, put("r", "v"))}}},
		{"pre-prepare", body{Kind: aPrePrepare, Sum: fill(32)}},
		{"prepare", body{Kind: aPrepare, Sum: fill(32)}},
		{"commit", body{Kind: aCommit, Sum: fill(32)}},
		{"reply", body{Kind: aReply, Reply: answered(101, 1, 0, api.Result{})}},
		{"checkpoint", body{Kind: aCheckpoint, Sum: fill(32)}},
		{"view change", body{Kind: aViewChange}},
		{"new view", body{Kind: aNewView, Sets: sets(1)}},
		{"fetch", body{Kind: aFetch}},
		{"state", body{Kind: aState, Sum: fill(32), Cert: plains(1)}},
		{"need", body{Kind: aNeed, Sum: fill(32)}},
		{"batch", body{Kind: aBatch}},
		{"ask", body{Kind: anAsk, Reqs: ask}},
		{"shown", body{Kind: aShown, Cert: plains(3)}},
	}
}

// fullBodies: of every kind, with as much in it as it may have, but for long texts.
func fullBodies() []named {
	full := make([][]signed, 16)
	for i := range full {
		full[i] = texts(16)
	}
	return []named{
		{"full request", body{Kind: aRequest, Reqs: []api.Request{issued(greatest, greatest, fullOp())}}},
		{"full pre-prepare", body{Kind: aPrePrepare, View: most, Seq: most, Sum: fill(32)}},
		{"full prepare", body{Kind: aPrepare, View: most, Seq: most, Sum: fill(32)}},
		{"full commit", body{Kind: aCommit, View: most, Seq: most, Sum: fill(32)}},
		{"full reply", body{Kind: aReply, Reply: answered(greatest, greatest, most, fullResult())}},
		{"full checkpoint", body{Kind: aCheckpoint, Seq: most, Sum: fill(32)}},
		{"full view change", body{Kind: aViewChange, View: most, Seq: most, Cert: texts(16), Sets: full}},
		{"full new view", body{Kind: aNewView, View: most, Cert: texts(16), Sets: full[:1]}},
		{"full fetch", body{Kind: aFetch, Seq: most}},
		{"full state", body{Kind: aState, Seq: most, Sum: fill(32), Cert: []signed{plain(300)}}},
		{"full batch", body{Kind: aBatch, Cert: texts(4)}},
		{"full ask", body{Kind: anAsk, Reqs: []api.Request{issued(greatest, greatest, api.Op{Kind: api.Scan, K: api.Key{Row: long(32)}, To: long(32)})}}},
		{"full shown", body{Kind: aShown, Seq: most, Cert: []signed{plain(0), plain(128), plain(300)}}},
	}
}

// rightBodies: of every kind, many.
func rightBodies() []named {
	out := append(plainBodies(), fullBodies()...)
	for _, o := range append(writing(), reading()...) {
		out = append(out, named{fmt.Sprint("request of ", o.Kind), body{Kind: aRequest, Reqs: []api.Request{issued(101, 300, o)}}})
	}
	for _, o := range reading() {
		out = append(out, named{fmt.Sprint("ask of ", o.Kind), body{Kind: anAsk, Reqs: []api.Request{issued(101, 300, o)}}})
	}
	for i, r := range rightResults() {
		out = append(out, named{fmt.Sprint("reply of result ", i), body{Kind: aReply, Reply: answered(101, 300, 5, r)}})
	}
	for n := range 17 {
		out = append(out,
			named{fmt.Sprintf("view change of %d", n), body{Kind: aViewChange, View: 1, Seq: 4, Cert: texts(n), Sets: sets(16 - n)}},
			named{fmt.Sprintf("new view of %d", n), body{Kind: aNewView, View: 2, Cert: texts(n), Sets: [][]signed{texts(16 - n)}}})
	}
	for n := range 5 {
		out = append(out, named{fmt.Sprintf("batch of %d", n), body{Kind: aBatch, Cert: texts(n)}})
	}
	return out
}

// longBodies: with texts as long as they may be.
func longBodies() []named {
	return []named{
		{"long view change", body{Kind: aViewChange, View: 300, Seq: 300, Cert: slices.Repeat([]signed{said(greatest, 16384)}, 16), Sets: [][]signed{{said(1, 16384)}, {}, {said(2, 16384), said(3, 0)}}}},
		{"long new view", body{Kind: aNewView, View: 1, Cert: []signed{said(1, 16384)}, Sets: [][]signed{{said(1, 16384), said(2, 16383)}}}},
		{"long state", body{Kind: aState, Seq: 4, Sum: fill(32), Cert: []signed{plain(65536)}}},
		{"long batch", body{Kind: aBatch, Cert: slices.Repeat([]signed{said(101, 16384)}, 4)}},
		{"long shown", body{Kind: aShown, Seq: 4, Cert: []signed{plain(65536), plain(65535), plain(65536)}}},
	}
}

// copyOf: memory of its own, with room behind each list that must stay as it is; nil lists as empty ones.
func copyOf(x body) body {
	x.Sum = roomy(x.Sum)
	x.Reqs = withRoom(x.Reqs, func(q api.Request) api.Request {
		q.O = copyOfOp(q.O)
		return q
	})
	x.Reply.R.Cells = withRoom(x.Reply.R.Cells, func(c api.Cell) api.Cell {
		c.Value = roomy(c.Value)
		return c
	})
	x.Cert = copyOfTexts(x.Cert)
	x.Sets = withRoom(x.Sets, copyOfTexts)
	return x
}

func copyOfOp(o api.Op) api.Op {
	o.Value, o.Want = roomy(o.Value), roomy(o.Want)
	o.Sub = withRoom(o.Sub, copyOfOp)
	return o
}

func copyOfTexts(l []signed) []signed {
	return withRoom(l, func(s signed) signed {
		s.B, s.Tag = roomy(s.B), roomy(s.Tag)
		return s
	})
}

func withRoom[T any](l []T, own func(T) T) []T {
	out := make([]T, 0, len(l)+2)
	for _, x := range l {
		out = append(out, own(x))
	}
	return out
}

func roomy(b []byte) []byte {
	whole := append(bytes.Clone(b), 77, 78, 79)
	return whole[:len(b)]
}

// bare: the same body, with nil for each list without an element.
func bare(x body) body {
	x = copyOf(x)
	x.Sum, x.Reqs, x.Reply.R.Cells, x.Cert, x.Sets = orNil(x.Sum), orNil(x.Reqs), orNil(x.Reply.R.Cells), orNil(x.Cert), orNil(x.Sets)
	for i, set := range x.Sets {
		x.Sets[i] = orNil(set)
	}
	for _, l := range append(slices.Clone(x.Sets), x.Cert) {
		for i, s := range l {
			l[i].B, l[i].Tag = orNil(s.B), orNil(s.Tag)
		}
	}
	for i, c := range x.Reply.R.Cells {
		x.Reply.R.Cells[i].Value = orNil(c.Value)
	}
	return x
}

func orNil[T any](l []T) []T {
	if len(l) == 0 {
		return nil
	}
	return l
}

// seen: all that there is in a body, spare room too.
func seen(x body) string {
	texts := func(l []signed) string {
		var out []string
		for _, s := range l[:cap(l)] {
			out = append(out, fmt.Sprint(s.From, len(s.B), s.B[:cap(s.B)], len(s.Tag), s.Tag[:cap(s.Tag)]))
		}
		return fmt.Sprint(len(l), out)
	}
	out := []string{fmt.Sprint(x.Kind, x.View, x.Seq, len(x.Sum), x.Sum[:cap(x.Sum)], texts(x.Cert))}
	for _, q := range x.Reqs[:cap(x.Reqs)] {
		out = append(out, fmt.Sprint(q.Client, q.Stamp, seenOp(q.O)))
	}
	y := x.Reply
	out = append(out, fmt.Sprint(y.Client, y.Stamp, y.View, y.R.E, y.R.More))
	for _, c := range y.R.Cells[:cap(y.R.Cells)] {
		out = append(out, fmt.Sprint(c.K, c.Gone, len(c.Value), c.Value[:cap(c.Value)]))
	}
	for _, set := range x.Sets[:cap(x.Sets)] {
		out = append(out, texts(set))
	}
	return fmt.Sprint(len(x.Reqs), len(y.R.Cells), len(x.Sets), out)
}

func seenOp(o api.Op) string {
	out := []string{fmt.Sprint(o.Kind, o.K, o.To, o.Has, len(o.Value), o.Value[:cap(o.Value)], len(o.Want), o.Want[:cap(o.Want)])}
	for _, part := range o.Sub[:cap(o.Sub)] {
		out = append(out, seenOp(part))
	}
	return fmt.Sprint(len(o.Sub), out)
}

// spoil: all that there is in a body, spare room too.
func spoil(x *body) {
	spoilBytes(x.Sum)
	for _, q := range x.Reqs {
		spoilOp(q.O)
	}
	for _, c := range x.Reply.R.Cells {
		spoilBytes(c.Value)
	}
	for _, l := range append(slices.Clone(x.Sets), x.Cert) {
		for _, s := range l {
			spoilBytes(s.B)
			spoilBytes(s.Tag)
		}
		overwrite(l, said(99, 9))
	}
	overwrite(x.Reqs, issued(99, 99, put("spoilt", "spoilt")))
	overwrite(x.Reply.R.Cells, api.Cell{K: key("spoilt", "f", "", 9)})
	overwrite(x.Sets, texts(2))
}

func spoilOp(o api.Op) {
	spoilBytes(o.Value)
	spoilBytes(o.Want)
	for _, part := range o.Sub {
		spoilOp(part)
	}
	overwrite(o.Sub, put("spoilt", "spoilt"))
}

func spoilBytes(b []byte) {
	overwrite(b, 99)
}

func overwrite[T any](l []T, with T) {
	room := l[:cap(l)]
	for i := range room {
		room[i] = with
	}
}

// right, wrong: Right and Bytes say so, and Read of the bytes that the chapter would tell.
func right(t *testing.T, what string, x body) {
	t.Helper()
	is(t, what+": Right", message.Right(x), api.OK)
	form := formOf(x)
	b, kind := message.Bytes(x)
	is(t, what+": Bytes", kind, api.OK)
	same(t, what+": Bytes", b, form)
	read(t, what, form, x)
}

func wrong(t *testing.T, what string, x body) {
	t.Helper()
	is(t, what+": Right", message.Right(x), api.BadForm)
	b, kind := message.Bytes(x)
	is(t, what+": Bytes", kind, api.BadForm)
	is(t, what+": bytes beside a kind", len(b), 0)
	if x.Kind == aReply || bytes.Equal(formOfReply(x.Reply), formOfReply(api.Reply{})) { // another kind's bytes do not tell a reply
		notRead(t, what, formOf(x))
	}
}

// read, notRead: a body of these bytes; none.
func read(t *testing.T, what string, b []byte, want body) {
	t.Helper()
	x, kind := message.Read(b)
	is(t, what+": Read", kind, api.OK)
	same(t, what+": what was read", wholly(x), wholly(want))
}

func notRead(t *testing.T, what string, b []byte) {
	t.Helper()
	x, kind := message.Read(b)
	is(t, what+": Read", kind, api.BadForm)
	same(t, what+": the body beside a kind", wholly(x), wholly(body{}))
}
