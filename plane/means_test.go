package plane_test

import (
	"fmt"
	"math"
	"math/rand"
	"strconv"
	"testing"

	"bulwark/api"
	"bulwark/plane"
)

const edge = 1 << 20

var minusNought = math.Copysign(0, -1)

func is[T comparable](t *testing.T, what string, got, want T) {
	t.Helper()
	if got != want {
		t.Errorf("%s: %#v, not %#v", what, got, want)
	}
}

// isPlace: that one, and no part of it a minus nought, which == can't tell.
func isPlace(t *testing.T, what string, got, want complex128) {
	t.Helper()
	is(t, what, got, want)
	for _, part := range []float64{real(got), imag(got)} {
		if part == 0 && math.Signbit(part) {
			t.Errorf("%s: %v has a minus nought", what, got)
		}
	}
}

// isNone: no place, and the kind that was asked for.
func isNone(t *testing.T, what string, got complex128, kind, want api.Kind) {
	t.Helper()
	is(t, what+": kind", kind, want)
	isPlace(t, what, got, 0)
}

func at(re, im int) complex128 {
	return complex(float64(re), float64(im))
}

// parts: of a place, both of them whole.
func parts(z complex128) (re, im int) {
	return int(real(z)), int(imag(z))
}

// noParts: no place has such a part.
func noParts() []float64 {
	return []float64{
		0.5, -0.5, 1.5, -1e-9, math.SmallestNonzeroFloat64, -math.SmallestNonzeroFloat64,
		edge + 1, -edge - 1, edge + 0.5, -edge - 0.5, edge - 0.5, -edge + 0.5,
		math.Nextafter(edge, 2*edge), math.Nextafter(-edge, -2*edge), math.Nextafter(1, 0),
		2 * edge, -2 * edge, 1 << 31, -1 << 31, 1 << 32, 1 << 53, 1 << 63, 1 << 64, -1 << 63,
		math.MaxFloat64, -math.MaxFloat64, math.Inf(1), math.Inf(-1), math.NaN(),
	}
}

// noPlaces: each with one part wrong, or both.
func noPlaces() []complex128 {
	var out []complex128
	for _, part := range noParts() {
		out = append(out, complex(part, 0), complex(0, part), complex(part, -edge), complex(edge, part), complex(part, part), complex(part, minusNought))
	}
	return out
}

// wholes: of every place's parts those at the plane's edges, those around 0, and those around powers of 2.
func wholes() []int {
	out := []int{-edge, -edge + 1, -edge + 2, -3, -2, -1, 0, 1, 2, 3, 5, 1023, 1024, 1025, -1023, -1024, -1025, 699050, -699051, edge - 2, edge - 1, edge}
	chance := rand.New(rand.NewSource(5))
	for range 12 {
		out = append(out, chance.Intn(2*edge+1)-edge)
	}
	return out
}

func places() []complex128 {
	var out []complex128
	for _, re := range wholes() {
		for _, im := range wholes() {
			out = append(out, at(re, im))
		}
	}
	return append(out, noughts()...)
}

// noughts: places with a minus nought, which count as those with a nought.
func noughts() []complex128 {
	n := minusNought
	return []complex128{
		complex(n, n), complex(n, 0), complex(0, n), complex(n, 1), complex(1, n), complex(n, -1), complex(-1, n),
		complex(n, edge), complex(edge, n), complex(n, -edge), complex(-edge, n), complex(7, n), complex(n, -7),
	}
}

// rowOf: a row as the chapter tells it, by digits alone.
func rowOf(t *testing.T, z complex128) string {
	t.Helper()
	re, im := parts(z)
	reals, imags := fmt.Sprintf("%022b", re+edge), fmt.Sprintf("%022b", im+edge)
	digits := ""
	for i := range reals {
		digits += reals[i:i+1] + imags[i:i+1]
	}
	number, err := strconv.ParseUint(digits, 2, 64)
	if err != nil || len(digits) != 44 {
		t.Fatalf("%v: %s: %v", z, digits, err)
	}
	return rowWith(number)
}

// rowWith: of any number of 48 bits.
func rowWith(number uint64) string {
	row := []byte{'p', 0, 0, 0, 0, 0, 0}
	for i := 6; i > 0; i-- {
		row[i] = byte(number % 256)
		number /= 256
	}
	return string(row)
}

// numberOf: of a row that has seven bytes.
func numberOf(row string) uint64 {
	var number uint64
	for _, x := range []byte(row[1:]) {
		number = 256*number + uint64(x)
	}
	return number
}

// row: of a place.
func row(t *testing.T, z complex128) string {
	t.Helper()
	got, kind := plane.Row(z)
	if kind != api.OK || len(got) != 7 {
		t.Fatalf("row of %v: %q, %d", z, got, kind)
	}
	return got
}

func norm(t *testing.T, z complex128) uint64 {
	t.Helper()
	got, kind := plane.Norm(z)
	if kind != api.OK {
		t.Fatalf("norm of %v: %d", z, kind)
	}
	return got
}
