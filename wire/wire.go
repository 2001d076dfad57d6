// Package wire is layer 1: numbers and bytes in one form. See shared/doc/01-wire.md.
package wire

import (
	"slices"

	"bulwark/api"
)

const (
	groupBits = 7              // of a number, in each byte of its form
	more      = 1 << groupBits // is in every byte but a number's last one
	maxForm   = 10             // bytes of the greatest number's form
	lastTop   = 1              // the most that the tenth byte can be: 9 groups leave one bit of 64
)

// Uint, Bytes, Bool: forms.
func Uint(b []byte, n uint64) []byte {
	return putNumber(withRoom(b, maxForm), n)
}

func Bytes(b, x []byte) []byte {
	out := putNumber(withRoom(b, maxForm+len(x)), uint64(len(x)))
	return append(out, x...)
}

func Bool(b []byte, is bool) []byte {
	out := withRoom(b, 1)
	if is {
		return append(out, 1)
	}
	return append(out, 0)
}

// withRoom copies b, since a caller's spare room must stay as it is: to append to b itself could write there.
func withRoom(b []byte, room int) []byte {
	return append(make([]byte, 0, len(b)+room), b...)
}

func putNumber(b []byte, n uint64) []byte {
next:
	if n < more {
		return append(b, byte(n))
	}
	b = append(b, more|byte(n%more))
	n >>= groupBits
	goto next
}

// Reader: of forms.
type Reader struct {
	rest  []byte
	wrong api.Kind
}

// Read copies b: what its owner writes into it later must not be read.
func Read(b []byte) *Reader {
	return &Reader{rest: slices.Clone(b)}
}

func (r *Reader) Uint() uint64 {
	if r.failed() {
		return 0
	}
	n, used, wrong := takeNumber(r.rest)
	if wrong != api.OK {
		r.Fail(wrong)
		return 0
	}
	r.rest = r.rest[used:]
	return n
}

func (r *Reader) Int(most int) int {
	n := r.Uint()
	if r.failed() {
		return 0
	}
	if most < 0 || n > uint64(most) {
		r.Fail(api.TooLarge)
		return 0
	}
	return int(n)
}

func (r *Reader) Bytes(most int) []byte {
	n := r.Int(most)
	if r.failed() {
		return nil
	}
	if n > len(r.rest) {
		r.Fail(api.Short)
		return nil
	}
	out := withRoom(r.rest[:n], 0)
	r.rest = r.rest[n:]
	return out
}

func (r *Reader) Bool() bool {
	if r.failed() {
		return false
	}
	if len(r.rest) == 0 {
		r.Fail(api.Short)
		return false
	}
	if r.rest[0] > 1 {
		r.Fail(api.BadForm)
		return false
	}
	is := r.rest[0] == 1
	r.rest = r.rest[1:]
	return is
}

// Fail lets go of the bytes too, since nothing reads them any more.
func (r *Reader) Fail(k api.Kind) {
	if r.failed() || k == api.OK {
		return
	}
	r.wrong = k
	r.rest = nil
}

func (r *Reader) Left() int {
	if r.failed() {
		return 0
	}
	return len(r.rest)
}

func (r *Reader) Done() api.Kind {
	if r == nil {
		return api.Nil
	}
	if r.wrong == api.OK && len(r.rest) > 0 {
		return api.BadForm
	}
	return r.wrong
}

// failed holds for a nil reader too: it answers as one that has failed, but for Done.
func (r *Reader) failed() bool {
	return r == nil || r.wrong != api.OK
}

// takeNumber judges the tenth byte ahead of whether it is the last one, so that what is too great is BadForm even where the bytes end behind it.
func takeNumber(b []byte) (n uint64, used int, wrong api.Kind) {
next:
	if used == len(b) {
		return 0, 0, api.Short
	}
	group := b[used]
	if used == maxForm-1 && group > lastTop {
		return 0, 0, api.BadForm
	}
	if group == 0 && used > 0 {
		return 0, 0, api.BadForm
	}
	n |= uint64(group%more) << (groupBits * used)
	used++
	if group >= more {
		goto next
	}
	return n, used, api.OK
}
