package message_test

import (
	"bytes"
	"crypto/sha256"
	"encoding/hex"
	"fmt"
	"slices"
	"testing"

	"bulwark/api"
	"bulwark/message"
)

// sumOf: of `batch` and these parts, as chapter 2 tells it, by the library's means.
func sumOf(parts ...[]byte) []byte {
	form := join(text("batch"), number(len(parts)))
	for _, part := range parts {
		form = append(form, text(part)...)
	}
	sum := sha256.Sum256(form)
	return sum[:]
}

func TestP1303BatchOfNone(t *testing.T) {
	want := sha256.Sum256([]byte("\x05batch\x00"))
	same(t, "nil", message.Batch(nil), want[:])
	same(t, "empty", message.Batch([]api.Request{}), want[:])
	same(t, "by the model", sumOf(), want[:])
}

func TestP1303BatchWrittenOut(t *testing.T) {
	get := issued(101, 1, api.Op{Kind: api.Get, K: key("a", "b", "", 0)})
	want := sha256.Sum256([]byte("\x05batch\x01\x0e\x65\x01\x07\x01a\x01b\x00\x00\x00\x00\x00\x00\x00"))
	same(t, "a Get", message.Batch([]api.Request{get}), want[:])
	none := sha256.Sum256([]byte("\x05batch\x01\x00"))
	same(t, "one that is not right", message.Batch([]api.Request{{}}), none[:])
	is(t, "in digits", len(hex.EncodeToString(message.Batch([]api.Request{get}))), 64)
}

// P1303: requests that are right, and some that are not, at each place.
func TestP1303Batch(t *testing.T) {
	var good []api.Request
	var forms [][]byte
	for i, o := range append(writing(), reading()...) {
		q := issued(uint64(i+1), uint64(300*i+1), o)
		good, forms = append(good, q), append(forms, formOfRequest(q))
		same(t, fmt.Sprint("one of ", o.Kind), message.Batch([]api.Request{q}), sumOf(forms[i]))
		same(t, fmt.Sprint("as many as ", i+1), message.Batch(good), sumOf(forms...))
	}
	for name, bad := range wrongRequests() {
		same(t, name+" alone", message.Batch([]api.Request{bad}), sumOf(nil))
		same(t, name+" twice", message.Batch([]api.Request{bad, bad}), sumOf(nil, nil))
		for place := range good {
			l, parts := slices.Clone(good), slices.Clone(forms)
			l[place], parts[place] = bad, nil
			same(t, fmt.Sprintf("%s at %d", name, place), message.Batch(l), sumOf(parts...))
		}
	}
	many := slices.Repeat(good, 100)
	same(t, "many", message.Batch(many), sumOf(slices.Repeat(forms, 100)...))
}

// P1303: lists that are not the same have sums that are not.
func TestP1303BatchApart(t *testing.T) {
	a, b, none := issued(1, 1, scan()), issued(1, 2, scan()), api.Request{}
	lists := [][]api.Request{
		nil, {a}, {b}, {a, b}, {b, a}, {a, a}, {none}, {none, none}, {a, none}, {none, a}, {a, b, none}, {issued(2, 1, scan())}, {issued(1, 1, get())},
	}
	sums := map[string]int{}
	for i, l := range lists {
		sum := message.Batch(l)
		is(t, "bytes", len(sum), 32)
		if j, has := sums[string(sum)]; has {
			t.Errorf("lists %d and %d have one sum", j, i)
		}
		sums[string(sum)] = i
	}
	same(t, "two that are not right", message.Batch([]api.Request{issued(0, 1, scan())}), message.Batch([]api.Request{issued(1, 0, get())}))
}

func TestP1303BatchMemory(t *testing.T) {
	x := copyOf(body{Reqs: []api.Request{issued(1, 1, fullOp()), {}, issued(2, 1, put("r", "v"))}})
	before := seen(x)
	sum := message.Batch(x.Reqs)
	is(t, "handed in", seen(x), before)
	want := bytes.Clone(sum)
	spoilBytes(sum)
	same(t, "told again", message.Batch(x.Reqs), want)
}
