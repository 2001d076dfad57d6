package session_test

import (
	"encoding/hex"
	"testing"

	"bulwark/api"
	"bulwark/session"
)

// P1204: bytes and sums written out.
func TestP1204WrittenOut(t *testing.T) {
	x := made(t, 1, 300)
	same(t, "at first", x.Bytes(), []byte{2, 1, 0, 3, 0, 0, 0, 172, 2, 0, 3, 0, 0, 0})
	puts(t, x, 300, 129, api.Result{E: api.Missing, Cells: []api.Cell{{K: key("a", "b", "", 5), Value: []byte("v"), Gone: true}}, More: true})
	same(t, "behind a Put", x.Bytes(), []byte("\x02\x01\x00\x03\x00\x00\x00\xac\x02\x81\x01\x0c\x07\x01\x01a\x01b\x00\x05\x01v\x01\x01"))
}

func TestP1204SumsWrittenOut(t *testing.T) {
	x := made(t, 1)
	is(t, "at first", hex.EncodeToString(x.Sum()), "4dba6bea0ce10bcc0b77b48557ed7eb4c2541645e566f72b4553e27708789238")
	puts(t, x, 1, 5, api.Result{E: api.Missing})
	is(t, "behind a Put", hex.EncodeToString(x.Sum()), "b5913421ccf9659b33d838f1ed9175cdfddf4ae14c408b7bd1a73ce182418788")
}

func TestP1204Tables(t *testing.T) {
	for name, l := range tables() {
		holds(t, name, laid(t, l), l)
	}
}

// P1204: All is rising, whichever client is put first.
func TestP1204AllRises(t *testing.T) {
	x := made(t, 3, 5, 7)
	for i, client := range []uint64{7, 3, 5} {
		puts(t, x, client, uint64(i+1), api.Result{E: api.Kind(i)})
	}
	want := []session.Last{{Client: 3, Stamp: 2, R: api.Result{E: 1}}, {Client: 5, Stamp: 3, R: api.Result{E: 2}}, {Client: 7, Stamp: 1}}
	holds(t, "in another order", x, want)
}

// P1204: what All told is new memory each time, no two results share any.
func TestP1204AllMemory(t *testing.T) {
	for name, l := range tables() {
		x := laid(t, l)
		first, second := x.All(), x.All()
		for i := range first {
			spoil(&first[i].R)
			first[i].Client, first[i].Stamp = 99, 99
			same(t, name+": those behind it", formOf(first[i+1:]), formOf(l[i+1:]))
		}
		same(t, name+": told again", formOf(second), formOf(l))
		for i := range second[:cap(second)] {
			second[:cap(second)][i] = session.Last{Client: 77}
		}
		holds(t, name, x, l)
	}
}

// P1204: bytes and sums are new memory each time.
func TestP1204BytesMemory(t *testing.T) {
	for name, l := range tables() {
		x := laid(t, l)
		for range 2 {
			for _, b := range [][]byte{x.Bytes(), x.Sum()} {
				for i := range b[:cap(b)] {
					b[:cap(b)][i] = 99
				}
			}
		}
		holds(t, name, x, l)
	}
}

func TestP1204Clone(t *testing.T) {
	other := api.Result{E: api.Stopped, Cells: cells(1)}
	for name, l := range tables() {
		x := laid(t, l)
		y := x.Clone()
		holds(t, name+": the clone", y, l)
		is(t, name+": another table", x != y, true)
		z := y.Clone()
		for i := range l {
			if l[i].Stamp == greatest {
				continue
			}
			changed := append([]session.Last(nil), l...)
			changed[i].Stamp, changed[i].R = l[i].Stamp+1, other
			mine, theirs := x.Clone(), x.Clone()
			puts(t, mine, l[i].Client, l[i].Stamp+1, other)
			holds(t, name+": a clone that was put to", mine, changed)
			holds(t, name+": its elder", x, l)
			holds(t, name+": another clone", theirs, l)
			elder := theirs.Clone()
			puts(t, theirs, l[i].Client, l[i].Stamp+1, other)
			holds(t, name+": an elder that was put to", theirs, changed)
			holds(t, name+": its clone", elder, l)
		}
		holds(t, name+": the clone's clone", z, l)
	}
}

// P1204: what is told by a clone and changed leaves both as they were.
func TestP1204CloneMemory(t *testing.T) {
	for name, l := range tables() {
		x := laid(t, l)
		y := x.Clone()
		for _, table := range []*session.Table{x, y} {
			for _, told := range table.All() {
				spoil(&told.R)
				r, _ := table.Ask(told.Client, told.Stamp)
				spoil(&r)
			}
		}
		holds(t, name, x, l)
		holds(t, name+": the clone", y, l)
	}
}

func TestP1204Nil(t *testing.T) {
	var x *session.Table
	is(t, "All", len(x.All()), 0)
	is(t, "Clone", x.Clone(), nil)
	is(t, "Bytes", len(x.Bytes()), 0)
	is(t, "Sum", len(x.Sum()), 0)
}

// P1204: tables that are not the same have sums that are not the same.
func TestP1204SumsApart(t *testing.T) {
	names := map[string]string{}
	for name, l := range tables() {
		sum := string(laid(t, l).Sum())
		if names[sum] != "" {
			t.Errorf("%s and %s have one sum", name, names[sum])
		}
		names[sum] = name
	}
}
