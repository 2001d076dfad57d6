package plane_test

import (
	"strings"
	"testing"

	"bulwark/api"
	"bulwark/plane"
)

func TestP501Right(t *testing.T) {
	for _, z := range places() {
		is(t, "Right", plane.Right(z), api.OK)
	}
	for _, z := range noPlaces() {
		if kind := plane.Right(z); kind != api.BadArg {
			t.Errorf("Right of %v: %d", z, kind)
		}
	}
}

func TestP501Example(t *testing.T) {
	is(t, "row of 0", row(t, 0), "p\x03\x00\x00\x00\x00\x00")
}

// P501: rows written out, bit by bit.
func TestP501Row(t *testing.T) {
	cases := []struct {
		z    complex128
		want string
	}{
		{at(-edge, -edge), "p\x00\x00\x00\x00\x00\x00"},
		{at(-edge, -edge+1), "p\x00\x00\x00\x00\x00\x01"},
		{at(-edge+1, -edge), "p\x00\x00\x00\x00\x00\x02"},
		{at(-edge+1, -edge+1), "p\x00\x00\x00\x00\x00\x03"},
		{at(-edge+2, -edge), "p\x00\x00\x00\x00\x00\x08"},
		{at(-edge, -edge+16), "p\x00\x00\x00\x00\x01\x00"},
		{at(edge, -edge), "p\x08\x00\x00\x00\x00\x00"},
		{at(-edge, edge), "p\x04\x00\x00\x00\x00\x00"},
		{at(edge, edge), "p\x0c\x00\x00\x00\x00\x00"},
		{at(edge-1, edge-1), "p\x03\xff\xff\xff\xff\xff"},
		{at(-1, 0), "p\x01\xaa\xaa\xaa\xaa\xaa"},
		{at(0, -1), "p\x02\x55\x55\x55\x55\x55"},
		{at(0, 1), "p\x03\x00\x00\x00\x00\x01"},
		{at(1, 0), "p\x03\x00\x00\x00\x00\x02"},
	}
	for _, c := range cases {
		is(t, "Row", row(t, c.z), c.want)
	}
}

func TestP501RowAsTold(t *testing.T) {
	for _, z := range places() {
		is(t, "Row", row(t, z), rowOf(t, z))
	}
	for _, z := range noughts() {
		is(t, "with minus noughts", row(t, z), row(t, z+0))
	}
}

func TestP501RowOfNoPlace(t *testing.T) {
	for _, z := range noPlaces() {
		got, kind := plane.Row(z)
		is(t, "kind", kind, api.BadArg)
		is(t, "Row", got, "")
	}
}

func TestP501Read(t *testing.T) {
	for _, z := range places() {
		got, kind := plane.Read(rowOf(t, z))
		is(t, "kind", kind, api.OK)
		isPlace(t, "Read", got, z+0)
	}
}

func isNoRow(t *testing.T, row string) {
	t.Helper()
	z, kind := plane.Read(row)
	if kind != api.BadKey || z != 0 {
		t.Errorf("Read of %q: %v, %d", row, z, kind)
	}
}

func TestP501ReadOfOtherSizes(t *testing.T) {
	for _, z := range []complex128{0, at(-edge, -edge), at(edge, edge), at(3, -7)} {
		whole := rowOf(t, z)
		for size := range whole {
			isNoRow(t, whole[:size])
		}
		for _, more := range []string{"\x00", "p", "\xff", whole, strings.Repeat("\x00", 300)} {
			isNoRow(t, whole+more)
		}
		isNoRow(t, whole[1:])
		isNoRow(t, "p"+whole)
	}
}

func TestP501ReadOfOtherMarks(t *testing.T) {
	whole := rowOf(t, at(3, -7))
	for mark := range 256 {
		if mark != 'p' {
			isNoRow(t, string([]byte{byte(mark)})+whole[1:])
		}
	}
}

// P501: a number of more than 44 bits, whichever bit it is.
func TestP501ReadOfMoreBits(t *testing.T) {
	for _, z := range []complex128{0, at(-edge, -edge), at(edge, edge), at(3, -7)} {
		number := numberOf(rowOf(t, z))
		for high := uint64(1); high < 16; high++ {
			isNoRow(t, rowWith(number|high<<44))
		}
	}
	isNoRow(t, "p\xff\xff\xff\xff\xff\xff")
	isNoRow(t, "p\x10\x00\x00\x00\x00\x00")
}

// P501: 44 bits, yet a part above MaxPlane.
func TestP501ReadOfGreatParts(t *testing.T) {
	isNoRow(t, "p\x0f\xff\xff\xff\xff\xff")
	for i := range 21 {
		isNoRow(t, rowWith(2<<42|2<<(2*i)))
		isNoRow(t, rowWith(1<<42|1<<(2*i)))
		isNoRow(t, rowWith(3<<42|1<<(2*i)))
		z, kind := plane.Read(rowWith(2<<42 | 1<<(2*i)))
		is(t, "kind of another's bit", kind, api.OK)
		isPlace(t, "another's bit", z, at(edge, -edge+1<<i))
	}
}

// P501: what is read has just that row, and what is not read is no place's: of numbers all around the edges.
func TestP501ReadOfNumbers(t *testing.T) {
	for _, near := range []uint64{0, 1 << 40, 3 << 40, 1 << 42, 2 << 42, 3 << 42, 1 << 44, 1 << 47} {
		for off := range uint64(300) {
			text := rowWith(near + off - 150)
			z, kind := plane.Read(text)
			if kind != api.OK {
				isNoRow(t, text)
				continue
			}
			is(t, "its row", rowOf(t, z), text)
			is(t, "Right", plane.Right(z), api.OK)
		}
	}
}

// P504: a square's rows are as many numbers, one behind another.
func isTogether(t *testing.T, re, im, n int) {
	t.Helper()
	first := numberOf(row(t, at(re, im)))
	size := uint64(1) << (2 * n)
	seen := map[uint64]int{}
	for x := range 1 << n {
		for y := range 1 << n {
			off := numberOf(row(t, at(re+x, im+y))) - first
			if off >= size {
				t.Fatalf("square of 2^%d at %d, %d: %d, %d is %d away", n, re, im, x, y, off)
			}
			seen[off]++
		}
	}
	is(t, "places", uint64(len(seen)), size)
}

func TestP504Squares(t *testing.T) {
	for n := range 7 {
		side := 1 << n
		for _, re := range []int{-edge, -edge + side, -side, 0, 5 * side, edge - side} {
			for _, im := range []int{-edge, -edge + 3*side, -side, 0, 2 * side, edge - side} {
				isTogether(t, re, im, n)
			}
		}
	}
}

// P504: of greater squares, by their corners: rows inside lie between the first and the last, rows beside do not.
func TestP504GreatSquares(t *testing.T) {
	for n := range 21 {
		side := 1 << n
		for _, re := range []int{-edge, -side, 0, edge - side} {
			for _, im := range []int{-edge, -side, 0, edge - side} {
				lo, hi := row(t, at(re, im)), row(t, at(re+side-1, im+side-1))
				is(t, "from first to last", numberOf(hi)-numberOf(lo), 1<<(2*n)-1)
				for _, z := range places() {
					x, y := parts(z)
					inside := re <= x && x < re+side && im <= y && y < im+side
					own := row(t, z)
					is(t, "inside", lo <= own && own <= hi, inside)
				}
			}
		}
	}
}

func FuzzP501Read(f *testing.F) {
	f.Add("p\x03\x00\x00\x00\x00\x00")
	f.Add("p\x0c\x00\x00\x00\x00\x00")
	f.Add("p\x10\x00\x00\x00\x00\x00")
	f.Add("")
	f.Fuzz(func(t *testing.T, text string) {
		z, kind := plane.Read(text)
		if kind != api.OK {
			isNoRow(t, text)
			return
		}
		is(t, "its row", rowOf(t, z), text)
		isPlace(t, "again", z, z+0)
	})
}
