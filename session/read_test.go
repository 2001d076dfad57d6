package session_test

import (
	"bytes"
	"fmt"
	"slices"
	"testing"

	"bulwark/api"
	"bulwark/session"
)

// Forms of one client, for tables that are put together by hand.
func right(client uint64) []byte {
	return formOfLast(client, client+1, formOfResult(api.Result{E: api.Missing, Cells: cells(1)}))
}

func fresh(client uint64) []byte {
	return formOfLast(client, 0, []byte{0, 0, 0})
}

// of: how many are told, and these.
func of(count int, forms ...[]byte) []byte {
	return join(number(count), join(forms...))
}

func TestP1204ReadWrittenOut(t *testing.T) {
	read(t, "at first", []byte{2, 1, 0, 3, 0, 0, 0, 172, 2, 0, 3, 0, 0, 0}, atFirst(1, 300))
	read(t, "some", []byte("\x01\x65\x05\x0c\x07\x01\x01a\x01b\x00\x05\x01v\x01\x01"), []session.Last{{Client: 101, Stamp: 5, R: api.Result{E: api.Missing, Cells: []api.Cell{{K: key("a", "b", "", 5), Value: []byte("v"), Gone: true}}, More: true}}})
	for name, l := range tables() {
		read(t, name, formOf(l), l)
	}
}

// P1204: a table that was read goes on as the one that was put.
func TestP1204ReadGoesOn(t *testing.T) {
	for name, l := range tables() {
		x := laid(t, l)
		y, kind := session.Read(x.Bytes())
		is(t, name, kind, api.OK)
		same(t, name+": Sum", y.Sum(), x.Sum())
		want := slices.Clone(l)
		for i, c := range l {
			is(t, name+": Put of the last stamp", y.Put(c.Client, c.Stamp, api.Result{}), api.Stale)
			if c.Stamp < greatest {
				puts(t, y, c.Client, c.Stamp+1, full())
				want[i].Stamp, want[i].R = c.Stamp+1, full()
			}
		}
		holds(t, name+": what was read", y, want)
		holds(t, name+": what was put", x, l)
	}
}

func TestP1204ReadCutOff(t *testing.T) {
	notRead(t, "nil", nil, api.Short)
	notRead(t, "no bytes", []byte{}, api.Short)
	for name, l := range tables() {
		b := formOf(l)
		step := 1
		if len(b) > 10000 {
			step = 37
		}
		for i := 0; i < len(b); i += step {
			notRead(t, fmt.Sprintf("%s: %d bytes of %d", name, i, len(b)), b[:i], api.Short)
		}
		notRead(t, name+": all but the last byte", b[:len(b)-1], api.Short)
	}
}

func TestP1204ReadMoreBehind(t *testing.T) {
	for name, l := range tables() {
		b := formOf(l)
		for _, more := range [][]byte{{0}, {1}, {128}, {255}, fresh(greatest), b} {
			notRead(t, name+", more behind", join(b, more), api.BadForm)
		}
	}
}

func TestP1204ReadHowMany(t *testing.T) {
	for count := range 30 {
		var forms [][]byte
		var l []session.Last
		for i := range count {
			forms = append(forms, fresh(uint64(i+1)))
			l = append(l, session.Last{Client: uint64(i + 1)})
		}
		what := fmt.Sprint(count, " clients")
		switch {
		case count == 0:
			notRead(t, what, of(count), api.BadArg)
		case count <= api.MaxClients:
			read(t, what, of(count, forms...), l)
			notRead(t, what+", called one less", of(count-1, forms...), api.BadForm)
		default:
			notRead(t, what, of(count, forms...), api.TooLarge)
			notRead(t, what+" that are not there", of(count), api.TooLarge)
		}
		if count < api.MaxClients {
			notRead(t, what+", called one more", of(count+1, forms...), api.Short)
		}
	}
	notRead(t, "128", []byte{128, 1}, api.TooLarge)
	notRead(t, "2^64 - 1", number(uint64(greatest)), api.TooLarge)
	notRead(t, "above 2^64 - 1", []byte{129, 128, 128, 128, 128, 128, 128, 128, 128, 2}, api.BadForm)
	notRead(t, "9, and cut off", []byte{137}, api.Short)
}

// P1204: numbers that are not in wire's shortest form.
func TestP1204ReadShortestForm(t *testing.T) {
	for name, b := range map[string]string{
		"how many":         "\x81\x00\x01\x05\x03\x07\x00\x00",
		"how many, none":   "\x80\x00",
		"the client":       "\x01\x81\x00\x05\x03\x07\x00\x00",
		"a client 0":       "\x01\x80\x00\x05\x03\x07\x00\x00",
		"the stamp":        "\x01\x01\x85\x00\x03\x07\x00\x00",
		"a stamp 0":        "\x01\x01\x80\x00\x03\x00\x00\x00",
		"the result":       "\x01\x01\x05\x83\x00\x07\x00\x00",
		"its E":            "\x01\x01\x05\x04\x87\x00\x00\x00",
		"its cells":        "\x01\x01\x05\x04\x07\x80\x00\x00",
		"the last client":  "\x02\x01\x05\x03\x07\x00\x00\x82\x00\x05\x03\x07\x00\x00",
		"a great client":   "\x01\xff\xff\xff\xff\xff\xff\xff\xff\xff\x02\x05\x03\x07\x00\x00",
		"a great stamp":    "\x01\x01\xff\xff\xff\xff\xff\xff\xff\xff\xff\x02\x03\x07\x00\x00",
		"a great result":   "\x01\x01\x05\xff\xff\xff\xff\xff\xff\xff\xff\xff\x02\x07\x00\x00",
		"an endless stamp": "\x01\x01\xff\xff\xff\xff\xff\xff\xff\xff\xff\xff\xff\xff\xff",
	} {
		notRead(t, name, []byte(b), api.BadForm)
	}
}

// P1204: which bytes of a result are too many, whether they are there or not; up to that they are asked what they are.
func TestP1204ReadResultSize(t *testing.T) {
	for _, size := range []int{65537, 65538, 1 << 17, 1 << 20} {
		b := bytes.Repeat([]byte{0}, size)
		notRead(t, fmt.Sprint(size), of(1, formOfLast(1, 1, b)), api.TooLarge)
		notRead(t, fmt.Sprint(size, " that are not there"), of(1, []byte{1, 1}, number(size)), api.TooLarge)
		notRead(t, fmt.Sprint(size, ", of the second"), of(2, right(1), formOfLast(2, 1, b)), api.TooLarge)
	}
	notRead(t, "the greatest", of(1, []byte{1, 1}, number(uint64(greatest))), api.TooLarge)
	for _, size := range []int{4, 5888, 65535, 65536} {
		// the zero result, and bytes behind it
		notRead(t, fmt.Sprint(size), of(1, formOfLast(1, 1, bytes.Repeat([]byte{0}, size))), api.BadForm)
		notRead(t, fmt.Sprint(size, " that are not there"), of(1, []byte{1, 1}, number(size)), api.Short)
	}
}

// badResults: bytes that are no result's, and the kind that layer 6 has for them.
func badResults() map[string]struct {
	b    []byte
	want api.Kind
} {
	type bad = struct {
		b    []byte
		want api.Kind
	}
	out := map[string]bad{
		"no bytes":            {nil, api.Short},
		"an E alone":          {[]byte{7}, api.Short},
		"without More":        {[]byte{7, 0}, api.Short},
		"a cell that is none": {[]byte{0, 1, 0}, api.Short},
		"More 2":              {[]byte{0, 0, 2}, api.BadForm},
		"a byte behind it":    {[]byte{0, 0, 0, 0}, api.BadForm},
		"a long E":            {[]byte{128, 0, 0, 0}, api.BadForm},
		"E 101":               {[]byte{101, 0, 0}, api.TooLarge},
		"E 19":                {[]byte{19, 0, 0}, api.BadArg},
		"E 100":               {[]byte{100, 0, 1}, api.BadArg},
	}
	for name, want := range map[string]api.Kind{
		"17 cells": api.TooLarge, "many cells": api.TooLarge, "no row": api.BadArg, "no family": api.BadArg,
		"a long row": api.TooLarge, "a long family": api.TooLarge, "a long qual": api.TooLarge, "a long value": api.TooLarge,
	} {
		out[name] = bad{formOfResult(noResults()[name]), want}
	}
	return out
}

// P1204: a result's own kind, at each place among clients with nothing wrong, of each stamp.
func TestP1204ReadNoResult(t *testing.T) {
	for name, bad := range badResults() {
		for place := range 3 {
			for _, stamp := range []uint64{0, 1, greatest} {
				forms := [][]byte{right(1), right(2), right(3)}
				forms[place] = formOfLast(uint64(place+1), stamp, bad.b)
				notRead(t, fmt.Sprintf("%s at %d, of stamp %d", name, place, stamp), of(3, forms...), bad.want)
			}
		}
		notRead(t, name+" alone", of(1, formOfLast(1, 1, bad.b)), bad.want)
	}
}

// P1204: each pair of clients, at each place among others.
func TestP1204ReadRise(t *testing.T) {
	numbers := []uint64{0, 1, 2, 127, 128, 1 << 32, 1 << 63, greatest}
	for _, a := range numbers {
		for _, b := range numbers {
			l := []session.Last{{Client: a, Stamp: 4, R: full()}, {Client: b}}
			what := fmt.Sprintf("%d, %d", a, b)
			if a > 0 && a < b {
				read(t, what, formOf(l), l)
			} else {
				notRead(t, what, formOf(l), api.BadArg)
			}
		}
	}
	for i := range 8 {
		l := atFirst(10, 20, 30, 40, 50, 60, 70, 80)
		l[i].Client = 0
		notRead(t, fmt.Sprint("0 at ", i), formOf(l), api.BadArg)
		for j := range i {
			l := atFirst(10, 20, 30, 40, 50, 60, 70, 80)
			l[i], l[j] = l[j], l[i]
			notRead(t, fmt.Sprint("falls at ", j, " and ", i), formOf(l), api.BadArg)
			l[i] = l[j]
			notRead(t, fmt.Sprint("the same at ", j, " and ", i), formOf(l), api.BadArg)
		}
	}
	notRead(t, "0 alone", of(1, fresh(0)), api.BadArg)
	notRead(t, "0 alone, answered", of(1, right(0)), api.BadArg)
	notRead(t, "no client", []byte{0}, api.BadArg)
}

// P1204: of a client that was answered nothing yet only the zero result is read; of others any one.
func TestP1204ReadStampZero(t *testing.T) {
	for _, r := range results() {
		isZero := r.E == api.OK && len(r.Cells) == 0 && !r.More
		for place := range 3 {
			l := []session.Last{{Client: 1, Stamp: 4, R: full()}, {Client: 2}, {Client: 3, Stamp: 1}}
			l[place].Stamp, l[place].R = 0, r
			what := fmt.Sprintf("%+v at %d", r, place)
			if isZero {
				read(t, what, formOf(l), l)
			} else {
				notRead(t, what, formOf(l), api.BadArg)
			}
			l[place].Stamp = 1
			read(t, what+", of stamp 1", formOf(l), l)
		}
	}
}

// fault: a client with something wrong by itself, and the kind of that.
type fault struct {
	form []byte
	want api.Kind
}

// P1204: of two clients with something wrong the first one's is told, whatever that is.
func TestP1204ReadFirstClient(t *testing.T) {
	faults := map[string]fault{
		"a stamp 0":             {formOfLast(5, 0, []byte{7, 0, 0}), api.BadArg},
		"a client too great":    {[]byte{255, 255, 255, 255, 255, 255, 255, 255, 255, 2}, api.BadForm},
		"a result too long":     {join([]byte{5, 1}, number(65537)), api.TooLarge},
		"a result not shortest": {[]byte{5, 1, 131, 0, 0, 0, 0}, api.BadForm},
	}
	for name, bad := range badResults() {
		faults["a result: "+name] = fault{formOfLast(5, 1, bad.b), bad.want}
		faults["a result, of stamp 0: "+name] = fault{formOfLast(5, 0, bad.b), bad.want}
	}
	for first, a := range faults {
		notRead(t, first+", then cut off", of(2, a.form), a.want)
		notRead(t, first+", more behind", of(1, a.form, []byte{1, 2, 3}), a.want)
		notRead(t, first+", behind a client 0", of(2, fresh(0), a.form), a.want)
		notRead(t, first+", behind a greater client", of(2, right(9), a.form), a.want)
		notRead(t, first+", ahead of one that is the same", of(3, right(5), a.form, right(5)), a.want)
		notRead(t, first+", of more than MaxClients", of(9, a.form), api.TooLarge)
		for second, b := range faults {
			notRead(t, first+", then "+second, of(2, a.form, b.form), a.want)
			notRead(t, first+", then "+second+", behind one that is right", of(3, right(1), a.form, b.form), a.want)
		}
	}
}

// P1204: the reader's Done is told ahead of New's words, and behind what each client has wrong by itself.
func TestP1204ReadDone(t *testing.T) {
	for name, b := range map[string][]byte{
		"no client":                 of(0),
		"a client 0":                of(1, fresh(0)),
		"clients that fall":         of(2, right(2), right(1)),
		"clients that are the same": of(2, right(2), fresh(2)),
		"the last one falls":        of(3, right(1), right(3), right(2)),
	} {
		notRead(t, name, b, api.BadArg)
		for _, more := range [][]byte{{0}, {255}, right(7)} {
			notRead(t, name+", more behind", join(b, more), api.BadForm)
		}
		for i := range b {
			notRead(t, name+", cut off", b[:i], api.Short)
		}
	}
	notRead(t, "falls, a stamp 0 and more behind", of(2, right(2), formOfLast(1, 0, []byte{7, 0, 0}), []byte{1}), api.BadArg)
	notRead(t, "falls, and a third one cut off", of(3, right(2), right(1), []byte{5, 1}), api.Short)
}

// P1204: within a client what the reader says comes first, then the result's own kind, then its stamp.
func TestP1204ReadWithinClient(t *testing.T) {
	notRead(t, "a stamp 0, the result cut off", of(1, []byte{1, 0, 3, 7, 0}), api.Short)
	notRead(t, "a stamp 0, the result too long", of(1, []byte{1, 0}, number(65537)), api.TooLarge)
	notRead(t, "a stamp 0, More 2", of(1, formOfLast(1, 0, []byte{7, 0, 2})), api.BadForm)
	notRead(t, "a stamp 0, no bytes", of(1, formOfLast(1, 0, nil)), api.Short)
	notRead(t, "a stamp 0, E 101", of(1, formOfLast(1, 0, []byte{101, 0, 0})), api.TooLarge)
	notRead(t, "a client 0, More 2", of(1, formOfLast(0, 1, []byte{7, 0, 2})), api.BadForm)
	notRead(t, "a stamp too great, no result", of(1, []byte{1, 255, 255, 255, 255, 255, 255, 255, 255, 255, 2, 0}), api.BadForm)
	notRead(t, "a result too long, and cut off", of(1, []byte{1, 1}, number(65537), []byte{0}), api.TooLarge)
}

// P1204: bytes that are handed in are neither changed nor kept, spare room too.
func TestP1204ReadMemory(t *testing.T) {
	for name, l := range tables() {
		whole := append(formOf(l), 7, 8, 9)
		before := bytes.Clone(whole)
		b := whole[:len(whole)-3]
		x, kind := session.Read(b)
		is(t, name, kind, api.OK)
		same(t, name+": handed in", whole, before)
		for i := range whole {
			whole[i] = 99
		}
		holds(t, name, x, l)
		told := x.Bytes()
		for i := range told {
			told[i] = 99
		}
		holds(t, name+": behind a change of what was told", x, l)
	}
}
