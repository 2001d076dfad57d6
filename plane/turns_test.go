package plane_test

import (
	"math"
	"slices"
	"testing"

	"bulwark/api"
	"bulwark/plane"
)

// turned: by the parts alone.
func turned(z complex128, quarters int) complex128 {
	re, im := parts(z)
	switch (quarters%4 + 4) % 4 {
	case 1:
		return at(-im, re)
	case 2:
		return at(-re, -im)
	case 3:
		return at(im, -re)
	}
	return at(re, im)
}

func allQuarters() []int {
	return []int{0, 1, 2, 3, 4, 5, 6, 7, 8, 9, -1, -2, -3, -4, -5, -6, -7, -8, 1000001, -1000001, 1 << 31, -1 << 31,
		math.MaxInt, math.MaxInt - 1, math.MaxInt - 2, math.MaxInt - 3, math.MinInt, math.MinInt + 1, math.MinInt + 2, math.MinInt + 3}
}

func TestP502Turn(t *testing.T) {
	cases := []struct {
		quarters int
		want     complex128
	}{
		{0, at(3, 4)}, {1, at(-4, 3)}, {2, at(-3, -4)}, {3, at(4, -3)}, {4, at(3, 4)}, {5, at(-4, 3)},
		{-1, at(4, -3)}, {-2, at(-3, -4)}, {-3, at(-4, 3)}, {-4, at(3, 4)}, {-5, at(4, -3)},
		{math.MaxInt, at(4, -3)}, {math.MinInt, at(3, 4)}, {math.MinInt + 1, at(-4, 3)},
	}
	for _, c := range cases {
		got, kind := plane.Turn(at(3, 4), c.quarters)
		is(t, "kind", kind, api.OK)
		isPlace(t, "Turn", got, c.want)
	}
}

func TestP502TurnAsTold(t *testing.T) {
	for _, z := range places() {
		for _, quarters := range allQuarters() {
			got, kind := plane.Turn(z, quarters)
			is(t, "kind", kind, api.OK)
			isPlace(t, "Turn", got, turned(z, quarters))
		}
	}
}

func TestP502TurnOfNoPlace(t *testing.T) {
	for _, z := range noPlaces() {
		for _, quarters := range allQuarters() {
			got, kind := plane.Turn(z, quarters)
			isNone(t, "Turn", got, kind, api.BadArg)
		}
	}
}

// isProduct: of two places, by whole numbers.
func isProduct(t *testing.T, a, b complex128) {
	t.Helper()
	c, d := parts(a)
	e, f := parts(b)
	re, im := c*e-d*f, c*f+d*e
	got, kind := plane.Times(a, b)
	if max(re, -re, im, -im) > edge {
		isNone(t, "Times", got, kind, api.TooLarge)
		return
	}
	is(t, "kind", kind, api.OK)
	isPlace(t, "Times", got, at(re, im))
}

func TestP502Times(t *testing.T) {
	got, kind := plane.Times(at(1, 2), at(3, -1))
	is(t, "kind", kind, api.OK)
	isPlace(t, "Times", got, at(5, 5))
	got, kind = plane.Times(at(0, 1), at(0, 1))
	is(t, "kind", kind, api.OK)
	isPlace(t, "i times i", got, -1)
	got, kind = plane.Times(0, -1)
	is(t, "kind", kind, api.OK)
	isPlace(t, "0 times -1", got, 0)
	for _, a := range places() {
		for _, b := range []complex128{0, 1, -1, at(0, 1), at(0, -1), at(1, 1), at(1, -1), 2, at(-3, 2), at(1024, 0), at(0, -1024), at(512, 512), at(edge, edge), at(-edge, edge)} {
			isProduct(t, a, b)
			isProduct(t, b, a)
		}
		for _, b := range noughts() {
			isProduct(t, a, b)
		}
	}
}

// P502: products that are just places still, and that are none any more.
func TestP502TimesAtTheEdges(t *testing.T) {
	still := [][3]complex128{
		{at(1024, 0), at(1024, 0), at(edge, 0)},
		{at(0, 1024), at(0, 1024), at(-edge, 0)},
		{at(1024, 0), at(0, -1024), at(0, -edge)},
		{at(edge, edge), 1, at(edge, edge)},
		{at(edge, edge), at(0, 1), at(-edge, edge)},
		{at(edge, -edge), -1, at(-edge, edge)},
		{at(edge/2, edge/2), 2, at(edge, edge)},
		{at(edge/2, edge/2), at(1, 1), at(0, edge)},
		{at(edge/2, -edge/2), at(1, 1), at(edge, 0)},
		{at(edge, edge), 0, 0},
		{at(1023, 1), at(1025, -1), at(1023*1025+1, 2)},
	}
	for _, c := range still {
		got, kind := plane.Times(c[0], c[1])
		is(t, "kind", kind, api.OK)
		isPlace(t, "Times", got, c[2])
	}
	gone := [][2]complex128{
		{at(1025, 0), at(1024, 0)},
		{at(0, 1025), at(0, 1024)},
		{at(1024, 0), at(1024, 1025)},
		{at(1024, 0), at(-1025, 1)},
		{at(1024, 1), at(1024, -1)},
		{at(edge, edge), at(1, 1)},
		{at(edge, edge), at(1, -1)},
		{at(edge/2, edge/2+1), at(1, 1)},
		{at(edge/2, -edge/2-1), at(1, 1)},
		{at(edge/2+1, 0), 2},
		{at(0, -edge/2-1), 2},
		{at(edge, edge), at(edge, edge)},
		{at(-edge, edge), at(edge, edge)},
		{at(edge, 0), at(edge, 0)},
	}
	for _, c := range gone {
		got, kind := plane.Times(c[0], c[1])
		isNone(t, "Times", got, kind, api.TooLarge)
		got, kind = plane.Times(c[1], c[0])
		isNone(t, "Times the other way", got, kind, api.TooLarge)
	}
}

// P502: no place is told ahead of a product that is none.
func TestP502TimesOfNoPlace(t *testing.T) {
	for _, z := range noPlaces() {
		for _, other := range []complex128{0, 1, at(0, 1), 2, at(edge, edge), complex(math.Inf(1), 0), complex(0.5, math.NaN())} {
			got, kind := plane.Times(z, other)
			isNone(t, "Times", got, kind, api.BadArg)
			got, kind = plane.Times(other, z)
			isNone(t, "Times the other way", got, kind, api.BadArg)
		}
	}
	got, kind := plane.Times(0.5, 2)
	isNone(t, "a product that would be a place", got, kind, api.BadArg)
}

func TestP502Norm(t *testing.T) {
	is(t, "3 and 4i", norm(t, at(3, 4)), 25)
	is(t, "0", norm(t, 0), 0)
	is(t, "1", norm(t, 1), 1)
	is(t, "-i", norm(t, at(0, -1)), 1)
	is(t, "a corner", norm(t, at(-edge, edge)), 1<<41)
	is(t, "beside a corner", norm(t, at(-edge+1, edge)), 1<<41-1<<21+1)
	for _, z := range places() {
		re, im := parts(z)
		is(t, "Norm", norm(t, z), uint64(re*re+im*im))
	}
	for _, z := range noPlaces() {
		got, kind := plane.Norm(z)
		is(t, "kind", kind, api.BadArg)
		is(t, "Norm", got, 0)
	}
}

// isInside: for every place of parts; the corners may come in either order, and mixed.
func isInside(t *testing.T, x1, y1, x2, y2, x, y int) {
	t.Helper()
	want := x1 <= x && x <= x2 && y1 <= y && y <= y2
	for _, corners := range [][2]complex128{
		{at(x1, y1), at(x2, y2)}, {at(x2, y2), at(x1, y1)}, {at(x1, y2), at(x2, y1)}, {at(x2, y1), at(x1, y2)},
	} {
		is(t, "Inside", plane.Inside(corners[0], corners[1], at(x, y)), want)
	}
}

func TestP503Inside(t *testing.T) {
	for x := -4; x <= 4; x++ {
		for y := -4; y <= 4; y++ {
			isInside(t, -2, -3, 1, 2, x, y)
			isInside(t, -3, 1, 0, 1, x, y)
			isInside(t, 2, -1, 2, 3, x, y)
			isInside(t, 0, 0, 0, 0, x, y)
			isInside(t, -edge, -edge, edge, edge, x, y)
		}
	}
	for _, z := range places() {
		x, y := parts(z)
		isInside(t, -edge, -edge, edge, edge, x, y)
		isInside(t, -edge+1, -edge, edge, edge-1, x, y)
		isInside(t, -1024, -3, 1023, edge, x, y)
	}
	is(t, "minus noughts", plane.Inside(complex(minusNought, 0), complex(0, minusNought), complex(minusNought, minusNought)), true)
	is(t, "a nought between", plane.Inside(complex(minusNought, -1), complex(minusNought, 1), 0), true)
}

func TestP503InsideOfNoPlace(t *testing.T) {
	for _, z := range noPlaces() {
		is(t, "a", plane.Inside(z, at(1, 1), 0), false)
		is(t, "b", plane.Inside(at(1, 1), z, 0), false)
		is(t, "z", plane.Inside(at(-edge, -edge), at(edge, edge), z), false)
		is(t, "corners with themselves", plane.Inside(z, z, z), false)
		is(t, "a corner that is z", plane.Inside(z, 0, z), false)
		is(t, "the other corner that is z", plane.Inside(at(-1, -1), z, at(1, 1)), false)
	}
}

// nearOf: by the parts alone.
func nearOf(z complex128) []complex128 {
	re, im := parts(z)
	var out []complex128
	for _, step := range [][2]int{{1, 0}, {0, 1}, {-1, 0}, {0, -1}} {
		x, y := re+step[0], im+step[1]
		if max(x, -x, y, -y) <= edge {
			out = append(out, at(x, y))
		}
	}
	return out
}

func isNear(t *testing.T, z complex128, want ...complex128) {
	t.Helper()
	got, kind := plane.Near(z)
	is(t, "kind", kind, api.OK)
	if !slices.Equal(got, want) {
		t.Errorf("Near of %v: %v, not %v", z, got, want)
		return
	}
	for i, there := range got {
		isPlace(t, "Near", there, want[i])
	}
}

func TestP503Near(t *testing.T) {
	isNear(t, 0, 1, at(0, 1), -1, at(0, -1))
	isNear(t, at(3, 4), at(4, 4), at(3, 5), at(2, 4), at(3, 3))
	isNear(t, at(edge, 0), at(edge, 1), at(edge-1, 0), at(edge, -1))
	isNear(t, at(0, edge), at(1, edge), at(-1, edge), at(0, edge-1))
	isNear(t, at(-edge, 0), at(-edge+1, 0), at(-edge, 1), at(-edge, -1))
	isNear(t, at(0, -edge), at(1, -edge), at(0, -edge+1), at(-1, -edge))
	isNear(t, at(edge, edge), at(edge-1, edge), at(edge, edge-1))
	isNear(t, at(-edge, edge), at(-edge+1, edge), at(-edge, edge-1))
	isNear(t, at(-edge, -edge), at(-edge+1, -edge), at(-edge, -edge+1))
	isNear(t, at(edge, -edge), at(edge, -edge+1), at(edge-1, -edge))
	for _, z := range places() {
		isNear(t, z, nearOf(z)...)
	}
	for _, z := range noPlaces() {
		got, kind := plane.Near(z)
		is(t, "kind", kind, api.BadArg)
		is(t, "places", len(got), 0)
	}
}

// P503 with rule 4: each answer is memory of its own, its spare room too.
func TestP503NewMemory(t *testing.T) {
	one, _ := plane.Near(at(edge, 5))
	two, _ := plane.Near(at(edge, 5))
	one = one[:cap(one)]
	for i := range one {
		one[i] = 99
	}
	if !slices.Equal(two, nearOf(at(edge, 5))) {
		t.Errorf("written into: %v", two)
	}
	isNear(t, at(edge, 5), nearOf(at(edge, 5))...)
}

func TestP504FourQuarters(t *testing.T) {
	for _, z := range places() {
		once := z
		for range 4 {
			once, _ = plane.Turn(once, 1)
		}
		isPlace(t, "four of one", once, z+0)
		whole, kind := plane.Turn(z, 4)
		is(t, "kind", kind, api.OK)
		isPlace(t, "one of four", whole, z+0)
		for _, quarters := range allQuarters() {
			there, _ := plane.Turn(z, quarters)
			is(t, "norm", norm(t, there), norm(t, z))
			back, _ := plane.Turn(there, -(quarters % 4))
			isPlace(t, "there and back", back, z+0)
		}
	}
}

func TestP504NormsAreMultiplied(t *testing.T) {
	for _, a := range places() {
		for _, b := range []complex128{0, 1, at(0, -1), at(1, 1), at(2, -3), at(-5, 0), at(31, 17), at(512, 511), at(1024, 0), at(edge, edge)} {
			product, kind := plane.Times(a, b)
			if kind != api.OK {
				continue
			}
			is(t, "norm", norm(t, product), norm(t, a)*norm(t, b))
		}
	}
}
