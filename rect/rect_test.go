package rect_test

import (
	"math"
	"math/big"
	"math/bits"
	"slices"
	"testing"

	"compositor/api"
	"compositor/rect"
)

const most = api.MaxCoord

// at is short for a rectangle.
func at(x0, y0, x1, y1 int) api.Rect {
	return api.Rect{X0: x0, Y0: y0, X1: x1, Y1: y1}
}

var (
	zero  = at(0, 0, 0, 0)
	whole = at(-most, -most, most, most)
)

// extremes are numbers at and beyond every limit.
var extremes = []int{math.MinInt, math.MinInt + 1, math.MinInt32, -4*most - 1, -2*most - 1, -2 * most, -2*most + 1, -most - 1, -most, -most + 1, -1, 0, 1,
	most - 1, most, most + 1, 2*most - 1, 2 * most, 2*most + 1, 4*most + 1, math.MaxInt32, math.MaxInt - 1, math.MaxInt}

// notValid returns rectangles that are not valid, one for each coordinate and number beyond the limit; without the limit they would have pixels, all those of (0, 0, 2, 2) among them.
func notValid() []api.Rect {
	var out []api.Rect
	for _, n := range extremes {
		if n < -most {
			out = append(out, at(n, 0, 2, 2), at(0, n, 2, 2), at(n, n, 2, 2), at(n, n, -n, 2))
		}
		if n > most {
			out = append(out, at(0, 0, n, 2), at(0, 0, 2, n), at(0, 0, n, n))
		}
	}
	return out
}

// noPixels returns valid rectangles without pixels.
func noPixels() []api.Rect {
	return []api.Rect{zero, at(0, 0, 0, 2), at(0, 0, 2, 0), at(1, 1, 1, 1), at(2, 0, 0, 2), at(0, 2, 2, 0), at(2, 2, 0, 0), at(1, 0, 0, 1), at(-3, -3, -3, 3),
		at(most, most, -most, -most), at(most, -most, -most, most), at(-most, most, most, -most), at(-most, -most, -most, most), at(most, 0, most, 2), at(-most, -most, -most, -most), at(most, most, most, most)}
}

// empties returns all rectangles of noPixels and notValid.
func empties() []api.Rect {
	return append(noPixels(), notValid()...)
}

// grid has lines at the same coordinates in both directions; the rectangles on its lines consist of whole cells.
type grid []int

var grids = []grid{
	{-2, -1, 0, 1, 2},
	{3, 4, 5, 6, 7},
	{-most, -most + 1, 0, most - 1, most},
	{-most, -5, -2, 70, 900},
}

// rects returns all rectangles on the lines, those with exchanged coordinates among them.
func (g grid) rects() []api.Rect {
	var out []api.Rect
	for _, x0 := range g {
		for _, y0 := range g {
			for _, x1 := range g {
				for _, y1 := range g {
					out = append(out, at(x0, y0, x1, y1))
				}
			}
		}
	}
	return out
}

// cells returns the cells of r by the definition of its pixels, a bit for each cell.
func (g grid) cells(r api.Rect) (set uint64) {
	if max(r.X0, r.Y0, r.X1, r.Y1) > most || min(r.X0, r.Y0, r.X1, r.Y1) < -most {
		return 0
	}
	for i := range len(g) * len(g) {
		if x, y := g[i%len(g)], g[i/len(g)]; r.X0 <= x && x < r.X1 && r.Y0 <= y && y < r.Y1 {
			set |= 1 << i
		}
	}
	return set
}

// bounds returns the smallest rectangle that has all cells of the set.
func (g grid) bounds(set uint64) api.Rect {
	if set == 0 {
		return zero
	}
	out := at(most, most, -most, -most)
	for i := range len(g) * len(g) {
		if set>>i&1 == 1 {
			column, row := i%len(g), i/len(g)
			out.X0, out.X1 = min(out.X0, g[column]), max(out.X1, g[column+1])
			out.Y0, out.Y1 = min(out.Y0, g[row]), max(out.Y1, g[row+1])
		}
	}
	return out
}

// area returns the number of pixels of the cells of the set.
func (g grid) area(set uint64) int {
	n := 0
	for i := range len(g) * len(g) {
		if set>>i&1 == 1 {
			column, row := i%len(g), i/len(g)
			n += (g[column+1] - g[column]) * (g[row+1] - g[row])
		}
	}
	return n
}

// P4.1: Valid depends on every coordinate, and both limits are valid.
func TestValid(t *testing.T) {
	for _, n := range extremes {
		want := -16384 <= n && n <= 16384
		for _, r := range []api.Rect{at(n, 0, 0, 0), at(0, n, 0, 0), at(0, 0, n, 0), at(0, 0, 0, n), at(n, n, n, n), at(n, -most, most, 1)} {
			if got := rect.Valid(r); got != want {
				t.Errorf("%v: %t", r, got)
			}
		}
	}
	for _, r := range append(noPixels(), whole, at(0, 0, 1, 1), at(-3, 2, 5, 9)) {
		if !rect.Valid(r) {
			t.Errorf("%v is not valid", r)
		}
	}
	for _, r := range notValid() {
		if rect.Valid(r) {
			t.Errorf("%v is valid", r)
		}
	}
}

// P4.1: Empty, Canonical, Area and Contains of rectangles without pixels.
func TestNoPixels(t *testing.T) {
	for _, r := range empties() {
		if !rect.Empty(r) || rect.Canonical(r) != zero || rect.Area(r) != 0 {
			t.Errorf("%v: empty %t, canonical %v, area %d", r, rect.Empty(r), rect.Canonical(r), rect.Area(r))
		}
		for _, x := range append(extremes, 2, 3, r.X0, r.X1) {
			for _, y := range append(extremes, 2, 3, r.Y0, r.Y1) {
				if rect.Contains(r, x, y) {
					t.Errorf("%v contains %d, %d", r, x, y)
				}
			}
		}
	}
}

// P4.1: Empty, Canonical and Area of rectangles with pixels.
func TestPixels(t *testing.T) {
	for _, x := range []struct {
		r    api.Rect
		area int
	}{
		{at(0, 0, 1, 1), 1},
		{at(0, 0, 4, 4), 16},
		{at(1, 2, 4, 9), 21},
		{at(-3, -2, 5, -1), 8},
		{at(most-1, most-1, most, most), 1},
		{at(-most, -most, -most+1, -most+1), 1},
		{at(-most, 5, most, 6), 32768},
		{at(0, 0, most, most), 268435456},
		{whole, 1073741824},
	} {
		if rect.Empty(x.r) || rect.Canonical(x.r) != x.r || rect.Area(x.r) != x.area {
			t.Errorf("%v: empty %t, canonical %v, area %d", x.r, rect.Empty(x.r), rect.Canonical(x.r), rect.Area(x.r))
		}
	}
}

// P4.1: the pixels at the edges of a rectangle, and those beside them.
func TestContains(t *testing.T) {
	for _, r := range []api.Rect{at(0, 0, 1, 1), at(-1, 2, 3, 7), at(-5, -6, -2, -1), whole, at(most-2, -most, most, -most+2), at(-most, most-1, most, most)} {
		for _, x := range append(extremes, r.X0-1, r.X0, r.X0+1, r.X1-1, r.X1, r.X1+1) {
			for _, y := range append(extremes, r.Y0-1, r.Y0, r.Y0+1, r.Y1-1, r.Y1, r.Y1+1) {
				want := x >= r.X0 && x < r.X1 && y >= r.Y0 && y < r.Y1
				if got := rect.Contains(r, x, y); got != want {
					t.Errorf("%v, %d, %d: %t", r, x, y, got)
				}
			}
		}
	}
}

// P4.1: all functions of one rectangle agree with its pixels.
func TestEveryRectangle(t *testing.T) {
	for _, g := range grids {
		for _, r := range g.rects() {
			set := g.cells(r)
			if !rect.Valid(r) || rect.Empty(r) != (set == 0) || rect.Canonical(r) != g.bounds(set) || rect.Area(r) != g.area(set) {
				t.Errorf("%v: valid %t, empty %t, canonical %v, area %d", r, rect.Valid(r), rect.Empty(r), rect.Canonical(r), rect.Area(r))
			}
			for i := range len(g) * len(g) {
				if x, y := g[i%len(g)], g[i/len(g)]; rect.Contains(r, x, y) != (set>>i&1 == 1) {
					t.Errorf("%v, %d, %d: %t", r, x, y, rect.Contains(r, x, y))
				}
			}
		}
	}
}

// P4.2: pairs of rectangles, the example of the chapter among them.
func TestPairs(t *testing.T) {
	for _, x := range []struct {
		a, b             api.Rect
		within           bool
		intersect, union api.Rect
	}{
		{at(0, 0, 1, 1), at(5, 5, 6, 6), false, zero, at(0, 0, 6, 6)},
		{at(0, 0, 4, 4), at(0, 0, 4, 4), true, at(0, 0, 4, 4), at(0, 0, 4, 4)},
		{at(1, 1, 3, 3), at(0, 0, 4, 4), true, at(1, 1, 3, 3), at(0, 0, 4, 4)},
		{at(0, 0, 4, 4), at(1, 1, 3, 3), false, at(1, 1, 3, 3), at(0, 0, 4, 4)},
		{at(0, 0, 2, 2), at(1, 1, 3, 3), false, at(1, 1, 2, 2), at(0, 0, 3, 3)},
		{at(0, 1, 4, 2), at(1, 0, 2, 4), false, at(1, 1, 2, 2), at(0, 0, 4, 4)},
		{at(0, 0, 2, 2), at(2, 0, 4, 2), false, zero, at(0, 0, 4, 2)},
		{at(0, 0, 2, 2), at(0, 2, 2, 4), false, zero, at(0, 0, 2, 4)},
		{at(0, 0, 2, 2), at(2, 2, 4, 4), false, zero, at(0, 0, 4, 4)},
		{at(-4, -4, -1, -1), at(-2, -9, 7, -3), false, at(-2, -4, -1, -3), at(-4, -9, 7, -1)},
		{at(5, 6, 7, 8), whole, true, at(5, 6, 7, 8), whole},
		{whole, at(5, 6, 7, 8), false, at(5, 6, 7, 8), whole},
		{at(-most, -most, 1-most, 1-most), at(most-1, most-1, most, most), false, zero, whole},
	} {
		if got := rect.Within(x.a, x.b); got != x.within {
			t.Errorf("%v within %v: %t", x.a, x.b, got)
		}
		if got := rect.Intersect(x.a, x.b); got != x.intersect {
			t.Errorf("intersection of %v and %v: %v", x.a, x.b, got)
		}
		if got := rect.Union(x.a, x.b); got != x.union {
			t.Errorf("union of %v and %v: %v", x.a, x.b, got)
		}
	}
}

// P4.2: an empty rectangle has no pixels, wherever its coordinates are.
func TestPairsWithEmpty(t *testing.T) {
	for _, empty := range empties() {
		for _, r := range []api.Rect{at(0, 0, 1, 1), at(1, 1, 9, 9), at(-9, -8, -7, -6), at(7, 8, 9, 10), whole} {
			if !rect.Within(empty, r) || rect.Within(r, empty) {
				t.Errorf("%v within %v: %t, the other way: %t", empty, r, rect.Within(empty, r), rect.Within(r, empty))
			}
			if a, b := rect.Intersect(empty, r), rect.Intersect(r, empty); a != zero || b != zero {
				t.Errorf("intersection of %v and %v: %v, the other way: %v", empty, r, a, b)
			}
			if a, b := rect.Union(empty, r), rect.Union(r, empty); a != r || b != r {
				t.Errorf("union of %v and %v: %v, the other way: %v", empty, r, a, b)
			}
		}
		for _, other := range empties() {
			if !rect.Within(empty, other) || rect.Intersect(empty, other) != zero || rect.Union(empty, other) != zero {
				t.Errorf("%v and %v: within %t, intersection %v, union %v", empty, other, rect.Within(empty, other), rect.Intersect(empty, other), rect.Union(empty, other))
			}
		}
	}
}

// P4.2 and P4.4: all pairs of rectangles agree with their pixels; intersections and unions are commutative.
func TestEveryPair(t *testing.T) {
	for _, g := range grids {
		rects := append(g.rects(), at(g[0], g[0], g[4], most+1), at(-most-1, g[0], g[4], g[4]))
		sets := make([]uint64, len(rects))
		for i, r := range rects {
			sets[i] = g.cells(r)
		}
		for i, a := range rects {
			for j, b := range rects {
				if rect.Within(a, b) != (sets[i]&^sets[j] == 0) {
					t.Fatalf("%v within %v: %t", a, b, rect.Within(a, b))
				}
				if got := rect.Intersect(a, b); got != g.bounds(sets[i]&sets[j]) || got != rect.Intersect(b, a) {
					t.Fatalf("intersection of %v and %v: %v", a, b, got)
				}
				if got := rect.Union(a, b); got != g.bounds(sets[i]|sets[j]) || got != rect.Union(b, a) {
					t.Fatalf("union of %v and %v: %v", a, b, got)
				}
				checkSubtract(t, g, a, b)
			}
		}
	}
}

// P4.2: intersections and unions are associative.
func TestAssociative(t *testing.T) {
	rects := append(grid{-2, 0, 3}.rects(), at(-2, -2, most+1, 3), at(-most, 0, most, 2), whole)
	for _, a := range rects {
		for _, b := range rects {
			for _, c := range rects {
				if x, y := rect.Intersect(rect.Intersect(a, b), c), rect.Intersect(a, rect.Intersect(b, c)); x != y {
					t.Fatalf("intersections of %v, %v, %v: %v and %v", a, b, c, x, y)
				}
				if x, y := rect.Union(rect.Union(a, b), c), rect.Union(a, rect.Union(b, c)); x != y {
					t.Fatalf("unions of %v, %v, %v: %v and %v", a, b, c, x, y)
				}
			}
		}
	}
}

// P4.3: Translate, the examples of the chapter among its uses.
func TestTranslate(t *testing.T) {
	for _, x := range []struct {
		r      api.Rect
		dx, dy int
		want   api.Rect
	}{
		{at(16380, 0, 16384, 2), 3, -1, at(16383, -1, 16384, 1)},
		{at(16380, 0, 16384, 2), 4, 0, zero},
		{at(16380, 0, 16384, 2), 5, 0, zero},
		{at(16380, 0, 16384, 2), 0, 0, at(16380, 0, 16384, 2)},
		{at(1, 2, 3, 5), 10, 20, at(11, 22, 13, 25)},
		{at(1, 2, 3, 5), -10, -20, at(-9, -18, -7, -15)},
		{at(1, 2, 3, 5), -1, 0, at(0, 2, 2, 5)},
		{at(1, 2, 3, 5), 0, -2, at(1, 0, 3, 3)},
		{at(0, 0, 4, 4), 0, most - 1, at(0, most-1, 4, most)},
		{at(0, 0, 4, 4), 0, most, zero},
		{at(0, 0, 4, 4), -most - 3, 0, at(-most, 0, -most+1, 4)},
		{at(0, 0, 4, 4), -most - 4, 0, zero},
		{at(0, 0, 4, 4), 7, -most - 3, at(7, -most, 11, -most+1)},
		{at(0, 0, 4, 4), 7, -most - 4, zero},
		{at(0, 0, 4, 4), -most, -most, at(-most, -most, 4-most, 4-most)},
		{whole, 1, 0, at(1-most, -most, most, most)},
		{whole, 0, -1, at(-most, -most, most, most-1)},
		{whole, 2*most - 1, 1 - 2*most, at(most-1, -most, most, 1-most)},
		{whole, 2 * most, 0, zero},
		{whole, 0, -2 * most, zero},
		{whole, math.MaxInt, 0, zero},
		{whole, 0, math.MinInt, zero},
		{at(-most, -most, -1, -1), math.MinInt, math.MinInt, zero},
		{at(1, 1, most, most), math.MaxInt, math.MaxInt, zero},
	} {
		if got := rect.Translate(x.r, x.dx, x.dy); got != x.want {
			t.Errorf("%v by %d, %d: got %v, want %v", x.r, x.dx, x.dy, got, x.want)
		}
	}
}

// P4.3: moving an empty rectangle does not make it one with pixels, even if its coordinates become valid.
func TestTranslateEmpty(t *testing.T) {
	for _, r := range empties() {
		for _, dx := range append(extremes, 2, 3) {
			for _, dy := range append(extremes, 2, 3) {
				if got := rect.Translate(r, dx, dy); got != zero {
					t.Errorf("%v by %d, %d: %v", r, dx, dy, got)
				}
			}
		}
	}
	for _, r := range []api.Rect{at(most+1, 0, most+5, 4), at(0, -most-5, 4, -most-1)} {
		if got := rect.Translate(r, -100, 100); got != zero {
			t.Errorf("%v: %v", r, got)
		}
	}
}

// translated is P4.3, with numbers that do not overflow.
func translated(r api.Rect, dx, dy int) api.Rect {
	if rect.Empty(r) {
		return zero
	}
	sum := func(n, d int) int {
		s := new(big.Int).Add(big.NewInt(int64(n)), big.NewInt(int64(d)))
		if s.Cmp(big.NewInt(-most)) < 0 {
			return -most
		}
		if s.Cmp(big.NewInt(most)) > 0 {
			return most
		}
		return int(s.Int64())
	}
	out := at(sum(r.X0, dx), sum(r.Y0, dy), sum(r.X1, dx), sum(r.Y1, dy))
	if rect.Empty(out) {
		return zero
	}
	return out
}

// replaced reports whether Translate replaces a coordinate of r.
func replaced(r api.Rect, dx, dy int) bool {
	beyond := func(n, d int) bool { return d > most-n || d < -most-n }
	return beyond(r.X0, dx) || beyond(r.X1, dx) || beyond(r.Y0, dy) || beyond(r.Y1, dy)
}

// P4.3: many rectangles, moved by numbers of the full range, and back.
func TestTranslateMany(t *testing.T) {
	distances := append(extremes, 2, 3, -2, -3, most-7, 7-most, 2*most-7, 7-2*most)
	for _, g := range grids {
		for _, r := range g.rects() {
			if rect.Empty(r) {
				continue
			}
			for _, dx := range distances {
				for _, dy := range distances {
					got := rect.Translate(r, dx, dy)
					if want := translated(r, dx, dy); got != want {
						t.Fatalf("%v by %d, %d: got %v, want %v", r, dx, dy, got, want)
					}
					if !replaced(r, dx, dy) && rect.Translate(got, -dx, -dy) != r {
						t.Fatalf("%v by %d, %d and back: %v", r, dx, dy, rect.Translate(got, -dx, -dy))
					}
				}
			}
		}
	}
}

// P4.4: the rectangles of Subtract and their order, with every choice of empty parts.
func TestSubtract(t *testing.T) {
	a := at(0, 0, 4, 4)
	for _, x := range []struct {
		a, b api.Rect
		want []api.Rect
	}{
		{a, at(1, 1, 2, 3), []api.Rect{at(0, 0, 4, 1), at(0, 3, 4, 4), at(0, 1, 1, 3), at(2, 1, 4, 3)}},
		{a, a, nil},
		{a, at(-1, -1, 5, 5), nil},
		{a, whole, nil},
		{a, at(4, 0, 8, 4), []api.Rect{a}},
		{a, at(0, -4, 4, 0), []api.Rect{a}},
		{a, at(9, 9, 10, 10), []api.Rect{a}},
		{a, at(-1, 1, 9, 9), []api.Rect{at(0, 0, 4, 1)}},
		{a, at(-1, -1, 9, 3), []api.Rect{at(0, 3, 4, 4)}},
		{a, at(1, -1, 9, 9), []api.Rect{at(0, 0, 1, 4)}},
		{a, at(-1, -1, 3, 9), []api.Rect{at(3, 0, 4, 4)}},
		{a, at(-1, 1, 9, 3), []api.Rect{at(0, 0, 4, 1), at(0, 3, 4, 4)}},
		{a, at(1, -1, 3, 9), []api.Rect{at(0, 0, 1, 4), at(3, 0, 4, 4)}},
		{a, at(2, 2, 9, 9), []api.Rect{at(0, 0, 4, 2), at(0, 2, 2, 4)}},
		{a, at(-1, 2, 2, 9), []api.Rect{at(0, 0, 4, 2), at(2, 2, 4, 4)}},
		{a, at(2, -1, 9, 2), []api.Rect{at(0, 2, 4, 4), at(0, 0, 2, 2)}},
		{a, at(-1, -1, 2, 2), []api.Rect{at(0, 2, 4, 4), at(2, 0, 4, 2)}},
		{a, at(-1, 1, 2, 3), []api.Rect{at(0, 0, 4, 1), at(0, 3, 4, 4), at(2, 1, 4, 3)}},
		{a, at(2, 1, 9, 3), []api.Rect{at(0, 0, 4, 1), at(0, 3, 4, 4), at(0, 1, 2, 3)}},
		{a, at(1, -1, 3, 2), []api.Rect{at(0, 2, 4, 4), at(0, 0, 1, 2), at(3, 0, 4, 2)}},
		{a, at(1, 2, 3, 9), []api.Rect{at(0, 0, 4, 2), at(0, 2, 1, 4), at(3, 2, 4, 4)}},
		{whole, at(0, 0, 1, 1), []api.Rect{at(-most, -most, most, 0), at(-most, 1, most, most), at(-most, 0, 0, 1), at(1, 0, most, 1)}},
		{whole, at(-most, -most, most, 1-most), []api.Rect{at(-most, 1-most, most, most)}},
	} {
		if got := rect.Subtract(x.a, x.b); !slices.Equal(got, x.want) {
			t.Errorf("%v minus %v: got %v, want %v", x.a, x.b, got, x.want)
		}
	}
}

// P4.4: rectangles without pixels leave a as it is, and nothing is left of them.
func TestSubtractEmpty(t *testing.T) {
	for _, empty := range empties() {
		for _, r := range []api.Rect{at(0, 0, 1, 1), at(0, 0, 2, 2), at(-9, -9, 9, 9), whole} {
			if got := rect.Subtract(r, empty); !slices.Equal(got, []api.Rect{r}) {
				t.Errorf("%v minus %v: %v", r, empty, got)
			}
			if got := rect.Subtract(empty, r); len(got) != 0 {
				t.Errorf("%v minus %v: %v", empty, r, got)
			}
		}
		for _, other := range empties() {
			if got := rect.Subtract(empty, other); len(got) != 0 {
				t.Errorf("%v minus %v: %v", empty, other, got)
			}
		}
	}
}

// subtracted is P4.4: it finds the four parts by the cells that they have.
func (g grid) subtracted(a, b uint64) []api.Rect {
	if a&b == 0 && a != 0 {
		return []api.Rect{g.bounds(a)}
	}
	i := g.bounds(a & b)
	var parts [4]uint64
	for cell := range len(g) * len(g) {
		if (a&^b)>>cell&1 == 0 {
			continue
		}
		x, y := g[cell%len(g)], g[cell/len(g)]
		part := 0
		switch {
		case y < i.Y0:
			part = 0
		case y >= i.Y1:
			part = 1
		case x < i.X0:
			part = 2
		default:
			part = 3
		}
		parts[part] |= 1 << cell
	}
	var out []api.Rect
	for _, part := range parts {
		if part != 0 {
			out = append(out, g.bounds(part))
		}
	}
	return out
}

// checkSubtract checks P4.4 and what follows from it.
func checkSubtract(t *testing.T, g grid, a, b api.Rect) {
	t.Helper()
	inA, inB := g.cells(a), g.cells(b)
	got := rect.Subtract(a, b)
	if !slices.Equal(got, g.subtracted(inA, inB)) {
		t.Fatalf("%v minus %v: got %v, want %v", a, b, got, g.subtracted(inA, inB))
	}
	var all uint64
	cells, area := 0, rect.Area(rect.Intersect(a, b))
	for _, part := range got {
		set := g.cells(part)
		all |= set
		cells += bits.OnesCount64(set)
		area += rect.Area(part)
	}
	if all != inA&^inB || cells != bits.OnesCount64(all) || area != rect.Area(a) || len(got) > 4 {
		t.Fatalf("%v minus %v: %v", a, b, got)
	}
}

// P4.5: the nearest pixel, the example of the chapter among them.
func TestClamp(t *testing.T) {
	for _, x := range []struct {
		r            api.Rect
		x, y         int
		wantX, wantY int
	}{
		{at(0, 0, 4, 4), 9, -2, 3, 0},
		{at(0, 0, 4, 4), -2, 9, 0, 3},
		{at(0, 0, 4, 4), 2, 1, 2, 1},
		{at(0, 0, 4, 4), 4, 4, 3, 3},
		{at(0, 0, 4, 4), 3, 0, 3, 0},
		{at(0, 0, 4, 4), -1, -1, 0, 0},
		{at(5, 6, 7, 9), 0, 0, 5, 6},
		{at(5, 6, 7, 9), 6, 100, 6, 8},
		{at(-7, -9, -5, -6), 0, 0, -6, -7},
		{at(-7, -9, -5, -6), math.MinInt, math.MaxInt, -7, -7},
		{at(3, 4, 4, 5), 0, 9, 3, 4},
		{whole, most, most, most - 1, most - 1},
		{whole, math.MaxInt, math.MinInt, most - 1, -most},
		{whole, 5, -5, 5, -5},
	} {
		if gotX, gotY := rect.Clamp(x.r, x.x, x.y); gotX != x.wantX || gotY != x.wantY {
			t.Errorf("%v, %d, %d: got %d, %d", x.r, x.x, x.y, gotX, gotY)
		}
	}
}

// P4.5: an empty rectangle has no pixel.
func TestClampEmpty(t *testing.T) {
	for _, r := range empties() {
		for _, n := range append(extremes, 2, 3) {
			if x, y := rect.Clamp(r, n, n); x != 0 || y != 0 {
				t.Errorf("%v, %d: %d, %d", r, n, x, y)
			}
		}
	}
}

// P4.5: no pixel of the rectangle is nearer, and a pixel of the rectangle is its own nearest.
func TestClampNearest(t *testing.T) {
	for _, r := range (grid{-3, -1, 0, 2}).rects() {
		if rect.Empty(r) {
			continue
		}
		for x := -6; x < 6; x++ {
			for y := -6; y < 6; y++ {
				gotX, gotY := rect.Clamp(r, x, y)
				if !rect.Contains(r, gotX, gotY) {
					t.Fatalf("%v, %d, %d: %d, %d is not in it", r, x, y, gotX, gotY)
				}
				distance := (gotX-x)*(gotX-x) + (gotY-y)*(gotY-y)
				for px := r.X0; px < r.X1; px++ {
					for py := r.Y0; py < r.Y1; py++ {
						if d := (px-x)*(px-x) + (py-y)*(py-y); d < distance {
							t.Fatalf("%v, %d, %d: %d, %d is nearer than %d, %d", r, x, y, px, py, gotX, gotY)
						}
					}
				}
			}
		}
	}
}

// P1: all functions return for numbers of the full range; the rectangles that they return are canonical and valid.
func TestFullRange(t *testing.T) {
	numbers := []int{math.MinInt, -most - 1, -most, 0, most, most + 1, math.MaxInt}
	var rects []api.Rect
	for _, x0 := range numbers {
		for _, y0 := range numbers {
			for _, x1 := range numbers {
				for _, y1 := range numbers {
					rects = append(rects, at(x0, y0, x1, y1))
				}
			}
		}
	}
	canonical := func(l ...api.Rect) {
		for _, r := range l {
			if !rect.Valid(r) || r != rect.Canonical(r) {
				t.Fatalf("%v is not canonical", r)
			}
		}
	}
	for i, a := range rects {
		valid := min(a.X0, a.Y0, a.X1, a.Y1) >= -most && max(a.X0, a.Y0, a.X1, a.Y1) <= most
		if rect.Valid(a) != valid || rect.Empty(a) != !(valid && a.X0 < a.X1 && a.Y0 < a.Y1) {
			t.Fatalf("%v: valid %t, empty %t", a, rect.Valid(a), rect.Empty(a))
		}
		canonical(rect.Canonical(a))
		for _, n := range numbers {
			canonical(rect.Translate(a, n, n), rect.Translate(a, n, 0), rect.Translate(a, 0, n))
			if x, y := rect.Clamp(a, n, n); !rect.Empty(a) && !rect.Contains(a, x, y) {
				t.Fatalf("%v, %d: %d, %d", a, n, x, y)
			}
		}
		for j := i % 11; j < len(rects); j += 11 {
			b := rects[j]
			canonical(rect.Intersect(a, b), rect.Union(a, b))
			for _, part := range rect.Subtract(a, b) {
				canonical(part)
				if rect.Empty(part) || !rect.Within(part, a) || !rect.Empty(rect.Intersect(part, b)) {
					t.Fatalf("%v minus %v: %v", a, b, part)
				}
			}
		}
	}
}

// R3 and R6: the results of Subtract are new memory and depend on the arguments alone.
func TestNewMemory(t *testing.T) {
	a, b := at(0, 0, 4, 4), at(1, 1, 2, 3)
	first := rect.Subtract(a, b)
	second := rect.Subtract(a, b)
	want := slices.Clone(second)
	clear(first[:cap(first)])
	if !slices.Equal(second, want) || !slices.Equal(rect.Subtract(a, b), want) {
		t.Error("two results share memory")
	}
}

// FuzzRects compares all functions with their definitions for arbitrary rectangles, whose coordinates are the lines of a grid, and arbitrary numbers.
func FuzzRects(f *testing.F) {
	f.Add(0, 0, 4, 4, 1, 1, 2, 3, 9, -2)
	f.Add(16380, 0, 16384, 2, -most, -most, most, most, 3, -1)
	f.Add(0, 0, most+1, 2, 2, 2, 0, 0, math.MinInt, math.MaxInt)
	f.Fuzz(func(t *testing.T, ax0, ay0, ax1, ay1, bx0, by0, bx1, by1, x, y int) {
		a, b := at(ax0, ay0, ax1, ay1), at(bx0, by0, bx1, by1)
		lines := grid{ax0, ay0, ax1, ay1, bx0, by0, bx1, by1}
		slices.Sort(lines)
		g := slices.Compact(lines)
		inA, inB := g.cells(a), g.cells(b)
		if rect.Empty(a) != (inA == 0) || rect.Canonical(a) != g.bounds(inA) || rect.Area(a) != g.area(inA) {
			t.Errorf("%v: empty %t, canonical %v, area %d", a, rect.Empty(a), rect.Canonical(a), rect.Area(a))
		}
		if rect.Within(a, b) != (inA&^inB == 0) || rect.Intersect(a, b) != g.bounds(inA&inB) || rect.Union(a, b) != g.bounds(inA|inB) {
			t.Errorf("%v and %v: within %t, intersection %v, union %v", a, b, rect.Within(a, b), rect.Intersect(a, b), rect.Union(a, b))
		}
		checkSubtract(t, g, a, b)
		if got, want := rect.Translate(a, x, y), translated(a, x, y); got != want {
			t.Errorf("%v by %d, %d: got %v, want %v", a, x, y, got, want)
		}
		if want := inA != 0 && ax0 <= x && x < ax1 && ay0 <= y && y < ay1; rect.Contains(a, x, y) != want {
			t.Errorf("%v contains %d, %d: %t", a, x, y, !want)
		}
		wantX, wantY := 0, 0
		if inA != 0 {
			wantX, wantY = min(max(x, ax0), ax1-1), min(max(y, ay0), ay1-1)
		}
		if gotX, gotY := rect.Clamp(a, x, y); gotX != wantX || gotY != wantY {
			t.Errorf("%v, %d, %d: got %d, %d, want %d, %d", a, x, y, gotX, gotY, wantX, wantY)
		}
	})
}
