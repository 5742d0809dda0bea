package region_test

import (
	"math"
	"math/rand/v2"
	"slices"
	"testing"

	"compositor/api"
	"compositor/rect"
	"compositor/region"
)

const most = api.MaxCoord

// at is short for a rectangle.
func at(x0, y0, x1, y1 int) api.Rect {
	return api.Rect{X0: x0, Y0: y0, X1: x1, Y1: y1}
}

type list = []api.Rect

var (
	zero  = at(0, 0, 0, 0)
	whole = at(-most, -most, most, most)
)

// extremes are numbers at and beyond every limit.
var extremes = []int{math.MinInt, math.MinInt + 1, math.MinInt32, -4 * most, -2*most - 1, -2 * most, -2*most + 1, -most - 1, -most, -most + 1, -1, 0, 1,
	most - 1, most, most + 1, 2*most - 1, 2 * most, 2*most + 1, 4 * most, math.MaxInt32, math.MaxInt - 1, math.MaxInt}

// pointless returns rectangles without points: valid ones, and ones that are not valid, one for each coordinate and number beyond the limit. Without the limit the latter would have the points of (0, 0, 2, 2).
func pointless() list {
	out := list{zero, at(0, 0, 0, 2), at(0, 0, 2, 0), at(1, 1, 1, 1), at(2, 0, 0, 2), at(0, 2, 2, 0), at(2, 2, 0, 0), at(most, most, -most, -most),
		at(-most, -most, -most, most), at(-most, -most, most, -most), at(most, 0, most, 2), at(0, most, 2, most)}
	for _, n := range extremes {
		if n < -most {
			out = append(out, at(n, 0, 2, 2), at(0, n, 2, 2), at(n, n, 2, 2), at(n, n, -n, 2))
		}
		if n > most {
			out = append(out, at(0, 0, n, 2), at(0, 0, 2, n), at(0, 0, n, n))
		}
	}
	return out
}

// grid has lines at the same coordinates in both directions, in ascending order; the rectangles on its lines consist of whole cells. It is a model of the points: a set of cells has a bit for each, row by row.
type grid []int

var grids = []grid{
	{-3, -2, -1, 0, 1, 2, 3, 4, 5},
	{-most, 1 - most, -700, -1, 0, 3, 90, most - 1, most},
	{most - 8, most - 7, most - 6, most - 5, most - 4, most - 3, most - 2, most - 1, most},
	{-most, 0, most},
}

func (g grid) side() int { return len(g) - 1 }

// cell returns the cell with that number.
func (g grid) cell(i int) api.Rect {
	column, row := i%g.side(), i/g.side()
	return at(g[column], g[row], g[column+1], g[row+1])
}

// set returns the cells of a list by the definition of its points.
func (g grid) set(l list) (out uint64) {
	for _, r := range l {
		if max(r.X0, r.Y0, r.X1, r.Y1) > most || min(r.X0, r.Y0, r.X1, r.Y1) < -most {
			continue
		}
		for i := range g.side() * g.side() {
			if c := g.cell(i); r.X0 <= c.X0 && c.X0 < r.X1 && r.Y0 <= c.Y0 && c.Y0 < r.Y1 {
				out |= 1 << i
			}
		}
	}
	return out
}

// canonical returns the canonical region of the set by its definition.
func (g grid) canonical(set uint64) (out list) {
	n := g.side()
	row := func(i int) uint64 { return set >> (i * n) & (1<<n - 1) }
	for top := 0; top < n; {
		bottom := top + 1
		for bottom < n && row(bottom) == row(top) {
			bottom++
		}
		for left := 0; left < n; left++ {
			right := left
			for right < n && row(top)>>right&1 == 1 {
				right++
			}
			if right > left {
				out = append(out, at(g[left], g[top], g[right], g[bottom]))
				left = right
			}
		}
		top = bottom
	}
	return out
}

// area returns the number of points of the set.
func (g grid) area(set uint64) (n int) {
	for i := range g.side() * g.side() {
		if c := g.cell(i); set>>i&1 == 1 {
			n += (c.X1 - c.X0) * (c.Y1 - c.Y0)
		}
	}
	return n
}

// bounds returns the smallest rectangle that has all cells of the set.
func (g grid) bounds(set uint64) api.Rect {
	if set == 0 {
		return zero
	}
	out := at(most, most, -most, -most)
	for i := range g.side() * g.side() {
		if c := g.cell(i); set>>i&1 == 1 {
			out = at(min(out.X0, c.X0), min(out.Y0, c.Y0), max(out.X1, c.X1), max(out.Y1, c.Y1))
		}
	}
	return out
}

// numbers returns numbers that are the same in each run of the tests.
func numbers() *rand.Rand {
	return rand.New(rand.NewPCG(5, 5))
}

// random returns a list of up to n rectangles on the lines, some of which have exchanged coordinates, with invalid ones among them.
func (g grid) random(source *rand.Rand, n int) list {
	none := pointless()
	line := func() int { return g[source.IntN(len(g))] }
	out := list{}
	for range source.IntN(n + 1) {
		switch source.IntN(8) {
		case 0:
			out = append(out, none[source.IntN(len(none))])
		case 1:
			out = append(out, at(line(), line(), line(), line()))
		default:
			x0, x1, y0, y1 := line(), line(), line(), line()
			out = append(out, at(min(x0, x1), min(y0, y1), max(x0, x1), max(y0, y1)))
		}
	}
	return out
}

// pieces returns the cells of the set, some of them twice, in any order.
func (g grid) pieces(source *rand.Rand, set uint64) (out list) {
	for i := range g.side() * g.side() {
		if set>>i&1 == 1 {
			out = append(out, g.cell(i))
			if source.IntN(4) == 0 {
				out = append(out, g.cell(i))
			}
		}
	}
	return shuffled(source, out)
}

func shuffled(source *rand.Rand, l list) list {
	out := slices.Clone(l)
	source.Shuffle(len(out), func(i, j int) { out[i], out[j] = out[j], out[i] })
	return out
}

// check compares a result with the region or the error that is wanted.
func check(t *testing.T, what string, got list, e api.Errno, want list, wantError api.Errno) {
	t.Helper()
	if e != wantError || !slices.Equal(got, want) {
		t.Fatalf("%s: got %v, error %d, want %v, error %d", what, got, e, want, wantError)
	}
}

// checkOK compares a result with the region that is wanted.
func checkOK(t *testing.T, what string, got list, e api.Errno, want list) {
	t.Helper()
	check(t, what, got, e, want, api.OK)
}

// staircase returns n separate rectangles of one point, each of them a band.
func staircase(n int) (out list) {
	for i := range n {
		out = append(out, at(i, i, i+1, i+1))
	}
	return out
}

// fence returns n separate rectangles of one band, from the column x on.
func fence(x, n int) (out list) {
	for i := range n {
		out = append(out, at(x+2*i, 3, x+2*i+1, 7))
	}
	return out
}

// board returns the white points of a chessboard with that many columns and rows.
func board(columns, rows int) (out list) {
	for y := range rows {
		for x := y % 2; x < columns; x += 2 {
			out = append(out, at(x, y, x+1, y+1))
		}
	}
	return out
}

// P5.1: New of single lists, the examples of the chapter among them.
func TestNew(t *testing.T) {
	for _, x := range []struct{ l, want list }{
		{list{at(0, 0, 2, 2), at(1, 1, 3, 3)}, list{at(0, 0, 2, 1), at(0, 1, 3, 2), at(1, 2, 3, 3)}},
		{list{at(0, 0, 1, 2), at(1, 0, 2, 2)}, list{at(0, 0, 2, 2)}},
		{list{at(0, 0, 2, 1), at(0, 1, 2, 2)}, list{at(0, 0, 2, 2)}},
		{nil, nil},
		{list{}, nil},
		{list{at(0, 0, 1, 1)}, list{at(0, 0, 1, 1)}},
		{list{whole}, list{whole}},
		{list{whole, at(0, 0, 1, 1)}, list{whole}},
		{list{at(5, 6, 7, 8), at(5, 6, 7, 8)}, list{at(5, 6, 7, 8)}},
		{list{at(1, 1, 2, 2), at(0, 0, 3, 3)}, list{at(0, 0, 3, 3)}},
		{list{at(0, 0, 1, 1), at(1, 1, 2, 2)}, list{at(0, 0, 1, 1), at(1, 1, 2, 2)}},
		{list{at(1, 0, 2, 1), at(0, 1, 1, 2)}, list{at(1, 0, 2, 1), at(0, 1, 1, 2)}},
		{list{at(3, 0, 4, 4), at(0, 0, 1, 4)}, list{at(0, 0, 1, 4), at(3, 0, 4, 4)}},
		{list{at(0, 3, 4, 4), at(0, 0, 4, 1)}, list{at(0, 0, 4, 1), at(0, 3, 4, 4)}},
		{list{at(1, 0, 2, 3), at(0, 1, 3, 2)}, list{at(1, 0, 2, 1), at(0, 1, 3, 2), at(1, 2, 2, 3)}},
		{list{at(0, 0, 2, 4), at(2, 1, 3, 2), at(2, 2, 3, 3)}, list{at(0, 0, 2, 1), at(0, 1, 3, 3), at(0, 3, 2, 4)}},
		{list{at(0, 0, 1, 2), at(2, 0, 3, 3)}, list{at(0, 0, 1, 2), at(2, 0, 3, 2), at(2, 2, 3, 3)}},
		{list{at(0, 0, 1, 2), at(0, 2, 1, 5), at(2, 0, 3, 4), at(2, 4, 3, 5)}, list{at(0, 0, 1, 5), at(2, 0, 3, 5)}},
		{list{at(0, 0, 3, 1), at(0, 1, 1, 2), at(2, 1, 3, 2), at(0, 2, 3, 3)}, list{at(0, 0, 3, 1), at(0, 1, 1, 2), at(2, 1, 3, 2), at(0, 2, 3, 3)}},
		{list{at(-most, -most, 0, 0), at(0, 0, most, most)}, list{at(-most, -most, 0, 0), at(0, 0, most, most)}},
		{list{at(-2, -2, -1, -1), at(-1, -2, 0, -1), zero}, list{at(-2, -2, 0, -1)}},
	} {
		got, e := region.New(x.l...)
		checkOK(t, "New", got, e, x.want)
	}
	got, e := region.New()
	checkOK(t, "New of nothing", got, e, nil)
}

// P5.1: rectangles without points change nothing, wherever they stand and whatever they overlap.
func TestNewPointless(t *testing.T) {
	l := list{at(0, 0, 2, 1), at(0, 1, 3, 2), at(1, 2, 3, 3)}
	for _, r := range pointless() {
		got, e := region.New(r)
		checkOK(t, "New", got, e, nil)
		got, e = region.New(append(list{r, r}, l...)...)
		checkOK(t, "New", got, e, l)
		got, e = region.New(append(slices.Clone(l), r)...)
		checkOK(t, "New", got, e, l)
	}
	got, e := region.New(pointless()...)
	checkOK(t, "New", got, e, nil)
}

// P5.1, P5.2 and P5.5: all sets of a grid, as cells, as rectangles that overlap, and as canonical regions.
func TestEverySet(t *testing.T) {
	source := numbers()
	g := grid{-most, -3, 4, most}
	for set := range uint64(512) {
		want := g.canonical(set)
		got, e := region.New(g.pieces(source, set)...)
		checkOK(t, "New", got, e, want)
		got, e = region.New(want...)
		checkOK(t, "New of a canonical region", got, e, want)
		if !region.IsCanonical(want) || region.Area(want) != g.area(set) || region.Bounds(want) != g.bounds(set) {
			t.Fatalf("%v: canonical %t, area %d, bounds %v", want, region.IsCanonical(want), region.Area(want), region.Bounds(want))
		}
	}
}

// P5.1, P5.2 and P5.5: many lists with overlapping, empty and invalid rectangles.
func TestManyLists(t *testing.T) {
	source := numbers()
	for _, g := range grids {
		for range 3000 {
			l := g.random(source, 12)
			set := g.set(l)
			want := g.canonical(set)
			got, e := region.New(l...)
			checkOK(t, "New", got, e, want)
			got, e = region.New(shuffled(source, append(slices.Clone(l), l...))...)
			checkOK(t, "New in another order", got, e, want)
			if region.IsCanonical(l) != slices.Equal(l, want) || !region.IsCanonical(want) {
				t.Fatalf("%v: canonical %t", l, region.IsCanonical(l))
			}
			if region.Area(l) != g.area(set) || region.Bounds(l) != g.bounds(set) {
				t.Fatalf("%v: area %d, bounds %v", l, region.Area(l), region.Bounds(l))
			}
			for i := range g.side() * g.side() {
				c := g.cell(i)
				if in := set>>i&1 == 1; region.Contains(l, c.X0, c.Y0) != in || region.Contains(l, c.X1-1, c.Y1-1) != in {
					t.Fatalf("%v: contains %v: %t", l, c, !in)
				}
			}
		}
	}
}

// P5.1: the limit counts the rectangles of the canonical region, in one band, in many and in both.
func TestNewLimit(t *testing.T) {
	source := numbers()
	for _, x := range []struct {
		l     list
		count int
	}{
		{fence(0, 255), 255},
		{fence(0, 256), 256},
		{fence(0, 257), 257},
		{fence(-most, 2000), 2000},
		{staircase(255), 255},
		{staircase(256), 256},
		{staircase(257), 257},
		{staircase(most), most},
		{board(16, 32), 256},
		{append(board(16, 32), at(0, 40, 1, 41)), 257},
		{append(staircase(56), fence(100, 200)...), 52 + 201*4},
		{append(fence(0, 200), at(0, 9, 1, 10)), 201},
		{board(2, 256), 256},
		{board(2, 257), 257},
	} {
		got, e := region.New(shuffled(source, x.l)...)
		if x.count > api.MaxRects {
			check(t, "New", got, e, nil, api.ErrLimit)
			continue
		}
		if e != api.OK || len(got) != x.count {
			t.Fatalf("%d rectangles: got %d, error %d", x.count, len(got), e)
		}
		checkOK(t, "New", got, e, x.l)
	}
}

// P5.1: lists and bands may have more than MaxRects rectangles if the canonical region has not.
func TestNewLongList(t *testing.T) {
	source := numbers()
	var points, rows list
	for y := range 60 {
		for x := range 60 {
			points = append(points, at(x, y, x+1, y+1))
		}
	}
	for y := -most; y < most; y++ {
		rows = append(rows, at(-5, y, 5, y+1), at(7, y, 9, y+1))
	}
	got, e := region.New(shuffled(source, points)...)
	checkOK(t, "New of points", got, e, list{at(0, 0, 60, 60)})
	got, e = region.New(shuffled(source, rows)...)
	checkOK(t, "New of rows", got, e, list{at(-5, -most, 5, most), at(7, -most, 9, most)})
	got, e = region.New(append(staircase(3000), at(0, 0, 3000, 3000))...)
	checkOK(t, "New of what covers the rest", got, e, list{at(0, 0, 3000, 3000)})
	got, e = region.New(slices.Repeat(list{at(1, 2, 3, 4), at(3, 2, 4, 4)}, 5000)...)
	checkOK(t, "New of duplicates", got, e, list{at(1, 2, 4, 4)})
	got, e = region.New(slices.Repeat(pointless(), 100)...)
	checkOK(t, "New of rectangles without points", got, e, nil)
}

// P5.1: IsCanonical.
func TestIsCanonical(t *testing.T) {
	for _, l := range []list{
		nil,
		{},
		{at(0, 0, 1, 1)},
		{whole},
		{at(0, 0, 2, 1), at(0, 1, 3, 2), at(1, 2, 3, 3)},
		{at(0, 0, 1, 4), at(3, 0, 4, 4)},
		{at(0, 0, 4, 1), at(0, 3, 4, 4)},
		{at(0, 0, 1, 1), at(1, 1, 2, 2)},
		{at(0, 0, 1, 2), at(2, 0, 3, 2), at(2, 2, 3, 3)},
		{at(-most, -most, 0, most), at(1, -most, most, most)},
		fence(0, 256), staircase(256), board(16, 32),
	} {
		if !region.IsCanonical(l) {
			t.Errorf("%v is not canonical", l)
		}
	}
	for _, l := range []list{
		{zero},
		{zero, zero},
		{at(0, 0, 1, 1), zero},
		{zero, at(0, 0, 1, 1)},
		{at(0, 0, most+1, 1)},
		{at(-most-1, 0, 1, 1)},
		{at(0, 0, 1, 1), at(0, 0, 1, 1)},
		{at(0, 0, 1, 2), at(1, 0, 2, 2)},
		{at(0, 0, 2, 1), at(0, 1, 2, 2)},
		{at(0, 0, 2, 2), at(1, 1, 3, 3)},
		{at(3, 0, 4, 4), at(0, 0, 1, 4)},
		{at(0, 3, 4, 4), at(0, 0, 4, 1)},
		{at(0, 0, 1, 2), at(2, 0, 3, 3)},
		{at(0, 0, 1, 1), at(2, 0, 3, 1), at(0, 1, 1, 2), at(2, 1, 3, 2)},
		{at(0, 0, 3, 3), at(1, 1, 2, 2)},
		{at(1, 1, 0, 0)},
		fence(0, 257), staircase(257), board(2, 257), fence(0, 5000),
	} {
		if region.IsCanonical(l) {
			t.Errorf("%v is canonical", l)
		}
	}
}

// P5.1 and P5.5: a canonical region with a change is the canonical region of nothing.
func TestIsCanonicalChanged(t *testing.T) {
	source := numbers()
	for _, g := range grids {
		for range 300 {
			l := g.canonical(g.set(g.random(source, 6)))
			for i, r := range l {
				changed := append(slices.Clone(l), r)
				if region.IsCanonical(changed) {
					t.Fatalf("%v with a rectangle twice", changed)
				}
				for _, none := range []api.Rect{zero, at(r.X1, r.Y0, r.X0, r.Y1), at(r.X0, r.Y0, r.X1, most+1)} {
					changed = slices.Insert(slices.Clone(l), i, none)
					if region.IsCanonical(changed) {
						t.Fatalf("%v with a rectangle without points", changed)
					}
				}
				if i > 0 {
					changed = slices.Clone(l)
					changed[i-1], changed[i] = changed[i], changed[i-1]
					if region.IsCanonical(changed) {
						t.Fatalf("%v in another order", changed)
					}
				}
				if m := (r.X0 + r.X1) >> 1; m > r.X0 {
					changed = slices.Replace(slices.Clone(l), i, i+1, at(r.X0, r.Y0, m, r.Y1), at(m, r.Y0, r.X1, r.Y1))
					if region.IsCanonical(changed) {
						t.Fatalf("%v with a divided run", changed)
					}
				}
			}
		}
	}
}

// P5.1: Equal compares points and not lists.
func TestEqual(t *testing.T) {
	for _, x := range []struct {
		a, b list
		want bool
	}{
		{nil, nil, true},
		{nil, list{}, true},
		{nil, pointless(), true},
		{nil, list{at(0, 0, 1, 1)}, false},
		{list{at(0, 0, 2, 2)}, list{at(0, 0, 1, 2), at(1, 0, 2, 2)}, true},
		{list{at(0, 0, 2, 2)}, list{at(0, 1, 2, 2), at(0, 0, 2, 1), at(1, 1, 2, 2)}, true},
		{list{at(0, 0, 2, 2)}, list{at(0, 0, 2, 2), at(0, 0, most+1, 1)}, true},
		{list{at(0, 0, 2, 2)}, list{at(0, 0, 2, 2), at(2, 0, 3, 1)}, false},
		{list{at(0, 0, 2, 2), at(5, 5, 6, 6)}, list{at(0, 0, 2, 2)}, false},
		{list{at(0, 0, 2, 2)}, list{at(0, 0, 2, 1)}, false},
		{list{at(0, 0, 1, 2)}, list{at(0, 0, 2, 2)}, false},
		{list{at(0, 0, 1, 1)}, list{at(1, 0, 2, 1)}, false},
		{list{at(0, 0, 1, 1)}, list{at(0, 1, 1, 2)}, false},
		{list{whole}, list{at(-most, -most, most, 0), at(-most, 0, most, most)}, true},
		{list{whole}, list{at(-most, -most, most-1, most)}, false},
		{list{at(0, 0, 3, 1), at(0, 0, 1, 3)}, list{at(0, 0, 3, 1), at(0, 0, 1, 3), at(0, 0, 2, 1)}, true},
		{fence(0, 300), fence(0, 300), true},
		{fence(0, 300), fence(0, 301), false},
		{staircase(5000), append(staircase(2500), staircase(5000)...), true},
		{board(100, 101), board(100, 100), false},
	} {
		if region.Equal(x.a, x.b) != x.want || region.Equal(x.b, x.a) != x.want {
			t.Errorf("%v and %v: %t", x.a, x.b, !x.want)
		}
	}
}

// P5.2: Contains at the edges of the points, and for numbers of the full range.
func TestContains(t *testing.T) {
	l := list{at(0, 0, 2, 2), at(1, 1, 3, 3), at(5, 0, 4, 9), at(0, 0, most+1, 9), at(-most, 8, most, 9)}
	for x := -2; x < 6; x++ {
		for y := -2; y < 6; y++ {
			want := x >= 0 && x < 2 && y >= 0 && y < 2 || x >= 1 && x < 3 && y >= 1 && y < 3
			if region.Contains(l, x, y) != want {
				t.Errorf("%d, %d: %t", x, y, !want)
			}
		}
	}
	for _, n := range extremes {
		if want := n >= -most && n < most; region.Contains(l, n, 8) != want || region.Contains(list{whole}, n, n) != want || region.Contains(list{whole}, 0, n) != want {
			t.Errorf("%d: %t", n, !want)
		}
		for _, m := range extremes {
			if region.Contains(nil, n, m) || region.Contains(pointless(), n, m) {
				t.Errorf("%d, %d is a point of an empty list", n, m)
			}
		}
	}
}

// P5.2: Area counts no point twice; Bounds considers no rectangle without points.
func TestAreaAndBounds(t *testing.T) {
	for _, x := range []struct {
		l      list
		area   int
		bounds api.Rect
	}{
		{nil, 0, zero},
		{list{}, 0, zero},
		{pointless(), 0, zero},
		{list{at(0, 0, 1, 1)}, 1, at(0, 0, 1, 1)},
		{list{at(0, 0, 2, 2), at(1, 1, 3, 3)}, 7, at(0, 0, 3, 3)},
		{list{at(0, 0, 4, 4), at(1, 1, 2, 2), at(0, 0, 4, 4)}, 16, at(0, 0, 4, 4)},
		{list{at(-9, 7, -7, 8), at(20, -3, 21, -1)}, 4, at(-9, -3, 21, 8)},
		{list{at(5, 5, 7, 8), zero, at(0, 0, 0, 100)}, 6, at(5, 5, 7, 8)},
		{list{at(-7, -8, -5, -5), at(0, 0, most+1, 1)}, 6, at(-7, -8, -5, -5)},
		{list{whole}, 1 << 30, whole},
		{list{whole, whole, at(0, 0, 5, 5)}, 1 << 30, whole},
		{list{at(-most, -most, 1-most, 1-most), at(most-1, most-1, most, most)}, 2, whole},
		{append(pointless(), at(3, 4, 5, 6)), 4, at(3, 4, 5, 6)},
	} {
		if got := region.Area(x.l); got != x.area {
			t.Errorf("area of %v: %d", x.l, got)
		}
		if got := region.Bounds(x.l); got != x.bounds {
			t.Errorf("bounds of %v: %v", x.l, got)
		}
	}
}

// P5.2: Contains, Area, Bounds and Equal of more than MaxRects rectangles, in the list and in its canonical region.
func TestNoLimit(t *testing.T) {
	source := numbers()
	for _, x := range []struct {
		l      list
		area   int
		bounds api.Rect
	}{
		{fence(0, 256), 1024, at(0, 3, 511, 7)},
		{fence(0, 257), 1028, at(0, 3, 513, 7)},
		{fence(-most, most), 4 * most, at(-most, 3, most-1, 7)},
		{staircase(257), 257, at(0, 0, 257, 257)},
		{staircase(most), most, at(0, 0, most, most)},
		{board(200, 300), 30000, at(0, 0, 200, 300)},
	} {
		l := shuffled(source, x.l)
		if region.Area(l) != x.area || region.Bounds(l) != x.bounds {
			t.Errorf("%d rectangles: area %d, bounds %v", len(l), region.Area(l), region.Bounds(l))
		}
		if r := x.l[len(x.l)-1]; !region.Contains(l, r.X0, r.Y0) || region.Contains(l, r.X1, r.Y0) {
			t.Errorf("%d rectangles: contains %t, %t", len(l), region.Contains(l, r.X0, r.Y0), region.Contains(l, r.X1, r.Y0))
		}
		if !region.Equal(l, x.l) || region.Equal(l, x.l[1:]) || region.Equal(x.l[1:], l) {
			t.Errorf("%d rectangles: equal %t, %t", len(l), region.Equal(l, x.l), region.Equal(l, x.l[1:]))
		}
	}
}

// P5.2: rectangles that begin and end in every row and every column.
func TestManyRectangles(t *testing.T) {
	source := numbers()
	var small, wide list
	for range 100000 {
		x, y := source.IntN(2*most-9)-most, source.IntN(2*most-9)-most
		small = append(small, at(x, y, x+1+source.IntN(8), y+1+source.IntN(8)))
	}
	for i := range 4000 {
		wide = append(wide, at(-i-1, -i-1, i+1, i+1))
	}
	if region.Area(wide) != 8000*8000 || !region.Equal(wide, wide[3999:]) {
		t.Errorf("squares: area %d", region.Area(wide))
	}
	if n := region.Area(small); n < 1900000 || n > 2100000 {
		t.Errorf("small rectangles: area %d", n)
	}
	if !region.Equal(small, shuffled(source, small)) || region.Equal(small, small[:50000]) {
		t.Error("small rectangles in another order, and half of them")
	}
}

// P5.3: single pairs of lists, the example of the chapter among them.
func TestPairs(t *testing.T) {
	for _, x := range []struct{ a, b, union, intersect, subtract list }{
		{list{at(0, 0, 3, 1)}, list{at(1, 0, 2, 1)}, list{at(0, 0, 3, 1)}, list{at(1, 0, 2, 1)}, list{at(0, 0, 1, 1), at(2, 0, 3, 1)}},
		{list{at(1, 0, 2, 1)}, list{at(0, 0, 3, 1)}, list{at(0, 0, 3, 1)}, list{at(1, 0, 2, 1)}, nil},
		{nil, nil, nil, nil, nil},
		{list{at(0, 0, 2, 2)}, nil, list{at(0, 0, 2, 2)}, nil, list{at(0, 0, 2, 2)}},
		{nil, list{at(0, 0, 2, 2)}, list{at(0, 0, 2, 2)}, nil, nil},
		{list{at(0, 0, 2, 2)}, list{at(0, 0, 2, 2)}, list{at(0, 0, 2, 2)}, list{at(0, 0, 2, 2)}, nil},
		{list{at(0, 0, 2, 2)}, pointless(), list{at(0, 0, 2, 2)}, nil, list{at(0, 0, 2, 2)}},
		{pointless(), list{at(0, 0, 2, 2)}, list{at(0, 0, 2, 2)}, nil, nil},
		{list{at(0, 0, 2, 2)}, list{at(2, 0, 4, 2)}, list{at(0, 0, 4, 2)}, nil, list{at(0, 0, 2, 2)}},
		{list{at(0, 0, 2, 2)}, list{at(0, 2, 2, 4)}, list{at(0, 0, 2, 4)}, nil, list{at(0, 0, 2, 2)}},
		{list{at(0, 0, 4, 4)}, list{at(1, 1, 3, 3)}, list{at(0, 0, 4, 4)}, list{at(1, 1, 3, 3)},
			list{at(0, 0, 4, 1), at(0, 1, 1, 3), at(3, 1, 4, 3), at(0, 3, 4, 4)}},
		{list{at(0, 0, 2, 2)}, list{at(1, 1, 3, 3)}, list{at(0, 0, 2, 1), at(0, 1, 3, 2), at(1, 2, 3, 3)}, list{at(1, 1, 2, 2)}, list{at(0, 0, 2, 1), at(0, 1, 1, 2)}},
		{list{at(0, 0, 2, 2), at(0, 0, 2, 2)}, list{at(0, 0, 1, 2)}, list{at(0, 0, 2, 2)}, list{at(0, 0, 1, 2)}, list{at(1, 0, 2, 2)}},
		{list{at(0, 0, 3, 3)}, list{at(1, 0, 2, 2), at(1, 1, 2, 3)}, list{at(0, 0, 3, 3)}, list{at(1, 0, 2, 3)}, list{at(0, 0, 1, 3), at(2, 0, 3, 3)}},
		{list{whole}, list{at(-most, -most, 0, most)}, list{whole}, list{at(-most, -most, 0, most)}, list{at(0, -most, most, most)}},
	} {
		got, e := region.Union(x.a, x.b)
		checkOK(t, "Union", got, e, x.union)
		got, e = region.Intersect(x.a, x.b)
		checkOK(t, "Intersect", got, e, x.intersect)
		got, e = region.Subtract(x.a, x.b)
		checkOK(t, "Subtract", got, e, x.subtract)
	}
}

// checkPair checks P5.1, P5.3 and P5.6 for two lists on the lines of the grid.
func checkPair(t *testing.T, g grid, a, b list) {
	t.Helper()
	inA, inB := g.set(a), g.set(b)
	union, e := region.Union(a, b)
	checkOK(t, "Union", union, e, g.canonical(inA|inB))
	both, e := region.Intersect(a, b)
	checkOK(t, "Intersect", both, e, g.canonical(inA&inB))
	rest, e := region.Subtract(a, b)
	checkOK(t, "Subtract", rest, e, g.canonical(inA&^inB))
	if region.Equal(a, b) != (inA == inB) {
		t.Fatalf("%v and %v: equal %t", a, b, region.Equal(a, b))
	}
	if region.Area(union)+region.Area(both) != region.Area(a)+region.Area(b) || region.Area(rest)+region.Area(both) != region.Area(a) {
		t.Fatalf("%v and %v: areas of the union %d, the intersection %d, the difference %d", a, b, region.Area(union), region.Area(both), region.Area(rest))
	}
	disjoint, e := region.Intersect(rest, both)
	checkOK(t, "Intersect of the parts", disjoint, e, nil)
	again, e := region.Union(rest, both)
	checkOK(t, "Union of the parts", again, e, g.canonical(inA))
}

// P5.3 and P5.6: pairs of all sets of a small grid, as canonical regions and as cells.
func TestPairsOfSets(t *testing.T) {
	source := numbers()
	g := grid{-most, -3, 4, most}
	for a := range uint64(512) {
		for b := a % 17; b < 512; b += 17 {
			checkPair(t, g, g.canonical(a), g.canonical(b))
		}
		checkPair(t, g, g.pieces(source, a), g.canonical(a))
	}
}

// P5.3 and P5.6: many pairs of lists with overlapping, empty and invalid rectangles.
func TestManyPairs(t *testing.T) {
	source := numbers()
	for _, g := range grids {
		for range 3000 {
			checkPair(t, g, g.random(source, 10), g.random(source, 10))
		}
	}
}

// P5.3 and P5.6: unions and intersections are commutative, associative and distributive.
func TestAlgebra(t *testing.T) {
	source := numbers()
	ok := func(l list, e api.Errno) list {
		if e != api.OK {
			t.Fatal("error", e)
		}
		return l
	}
	same := func(a, b list) {
		t.Helper()
		if !slices.Equal(a, b) || !region.Equal(a, b) {
			t.Fatalf("%v and %v", a, b)
		}
	}
	for _, g := range grids {
		for range 500 {
			a, b, c := g.random(source, 6), g.random(source, 6), g.random(source, 6)
			same(ok(region.Union(a, b)), ok(region.Union(b, a)))
			same(ok(region.Intersect(a, b)), ok(region.Intersect(b, a)))
			same(ok(region.Union(a, ok(region.Union(b, c)))), ok(region.Union(ok(region.Union(a, b)), c)))
			same(ok(region.Intersect(a, ok(region.Intersect(b, c)))), ok(region.Intersect(ok(region.Intersect(a, b)), c)))
			same(ok(region.Intersect(a, ok(region.Union(b, c)))), ok(region.Union(ok(region.Intersect(a, b)), ok(region.Intersect(a, c)))))
			same(ok(region.Subtract(a, ok(region.Union(b, c)))), ok(region.Subtract(ok(region.Subtract(a, b)), c)))
			same(ok(region.Union(a, a)), ok(region.New(a...)))
			same(ok(region.Union(a, nil)), ok(region.New(a...)))
			same(ok(region.Subtract(a, a)), nil)
		}
	}
}

// P5.3: the limit counts the rectangles of the result and not those of the arguments.
func TestPairsLimit(t *testing.T) {
	bar := list{at(-9, 3, 2000, 7)}
	sieve := fence(1, 255) // it divides the bar from 0 to 511 into 256 parts
	for _, x := range []struct {
		what  string
		do    func(a, b []api.Rect) ([]api.Rect, api.Errno)
		a, b  list
		want  list
		error api.Errno
	}{
		{"union of 128 and 128", region.Union, fence(0, 128), fence(1000, 128), append(fence(0, 128), fence(1000, 128)...), api.OK},
		{"union of 128 and 129", region.Union, fence(0, 128), fence(1000, 129), nil, api.ErrLimit},
		{"union of 0 and 256", region.Union, nil, fence(0, 256), fence(0, 256), api.OK},
		{"union of 0 and 257", region.Union, nil, fence(0, 257), nil, api.ErrLimit},
		{"union of 257 and 0", region.Union, staircase(257), nil, nil, api.ErrLimit},
		{"union of 300 and what covers them", region.Union, fence(0, 300), bar, bar, api.OK},
		{"union of 300 and what lies between them", region.Union, fence(0, 300), fence(1, 300), list{at(0, 3, 600, 7)}, api.OK},
		{"intersection of 256", region.Intersect, fence(0, 256), bar, fence(0, 256), api.OK},
		{"intersection of 257", region.Intersect, fence(0, 257), bar, nil, api.ErrLimit},
		{"intersection with 257", region.Intersect, list{whole}, staircase(257), nil, api.ErrLimit},
		{"intersection of a part of 300", region.Intersect, fence(0, 300), list{at(0, 0, 4, 5)}, list{at(0, 3, 1, 5), at(2, 3, 3, 5)}, api.OK},
		{"intersection of 300 with what lies between them", region.Intersect, fence(0, 300), fence(1, 300), nil, api.OK},
		{"difference of 256 parts", region.Subtract, list{at(0, 3, 511, 7)}, sieve, fence(0, 256), api.OK},
		{"difference of 257 parts", region.Subtract, list{at(0, 3, 513, 7)}, fence(1, 256), nil, api.ErrLimit},
		{"difference of 300 and most of them", region.Subtract, fence(0, 300), fence(6, 297), fence(0, 3), api.OK},
		{"difference of 300 and what covers them", region.Subtract, fence(0, 300), bar, nil, api.OK},
	} {
		got, e := x.do(x.a, x.b)
		check(t, x.what, got, e, x.want, x.error)
	}
}

// P5.4: Translate, with points that are moved out of the square.
func TestTranslate(t *testing.T) {
	stairs := list{at(0, 0, 2, 1), at(0, 1, 3, 2), at(1, 2, 3, 3)}
	for _, x := range []struct {
		l      list
		dx, dy int
		want   list
	}{
		{nil, 1, 1, nil},
		{nil, math.MinInt, math.MaxInt, nil},
		{stairs, 0, 0, stairs},
		{stairs, 10, 20, list{at(10, 20, 12, 21), at(10, 21, 13, 22), at(11, 22, 13, 23)}},
		{stairs, -10, -20, list{at(-10, -20, -8, -19), at(-10, -19, -7, -18), at(-9, -18, -7, -17)}},
		{list{at(0, 0, 2, 2), at(1, 1, 3, 3)}, 5, 0, list{at(5, 0, 7, 1), at(5, 1, 8, 2), at(6, 2, 8, 3)}},
		{stairs, most - 3, 0, list{at(most-3, 0, most-1, 1), at(most-3, 1, most, 2), at(most-2, 2, most, 3)}},
		{stairs, most - 2, 0, list{at(most-2, 0, most, 2), at(most-1, 2, most, 3)}},
		{stairs, most - 1, 0, list{at(most-1, 0, most, 2)}},
		{stairs, most, 0, nil},
		{stairs, -most - 1, 0, list{at(-most, 0, 1-most, 1), at(-most, 1, 2-most, 3)}},
		{stairs, -most - 2, 0, list{at(-most, 1, 1-most, 3)}},
		{stairs, -most - 3, 0, nil},
		{stairs, 0, most - 1, list{at(0, most-1, 2, most)}},
		{stairs, 0, most, nil},
		{stairs, 0, -most - 2, list{at(1, -most, 3, 1-most)}},
		{stairs, 0, -most - 3, nil},
		{list{whole}, 1, -1, list{at(1-most, -most, most, most-1)}},
		{list{whole}, 2*most - 1, 1 - 2*most, list{at(most-1, -most, most, 1-most)}},
		{list{whole}, 2 * most, 0, nil},
		{list{whole}, 0, -2 * most, nil},
		{list{whole}, math.MaxInt, 0, nil},
		{list{whole}, 0, math.MinInt, nil},
		{list{at(1, 1, most, most)}, math.MaxInt, math.MaxInt, nil},
		{list{at(-most, -most, -1, -1)}, math.MinInt, math.MinInt, nil},
		{list{at(0, 0, 1, 1), at(0, 0, most+1, 1), at(3, 3, 1, 5)}, 2, 2, list{at(2, 2, 3, 3)}},
		{list{at(most+1, 0, most+5, 4), at(0, -most-5, 4, -most-1)}, -100, 100, nil},
		{pointless(), 7, -7, nil},
	} {
		got, e := region.Translate(x.l, x.dx, x.dy)
		checkOK(t, "Translate", got, e, x.want)
	}
}

// translated is P5.4, by the points: it moves the lines of the grid, and keeps the cells that remain. The distances are at most 2 * most in absolute value.
func (g grid) translated(set uint64, dx, dy int) (out list) {
	for i := range g.side() * g.side() {
		if set>>i&1 == 1 {
			c := g.cell(i)
			moved := at(max(c.X0+dx, -most), max(c.Y0+dy, -most), min(c.X1+dx, most), min(c.Y1+dy, most))
			if moved.X0 < moved.X1 && moved.Y0 < moved.Y1 {
				out = append(out, moved)
			}
		}
	}
	return out
}

// P5.4: many lists, moved near and far, and back.
func TestTranslateMany(t *testing.T) {
	source := numbers()
	distances := []int{0, 1, -1, 3, -7, 90, -700, most - 1, -most, most, -most - 1, 2*most - 7, 7 - 2*most, 2*most - 1, 1 - 2*most, 2 * most, -2 * most}
	for _, g := range grids {
		for range 300 {
			l := g.random(source, 8)
			set := g.set(l)
			for range 8 {
				dx, dy := distances[source.IntN(len(distances))], distances[source.IntN(len(distances))]
				want, e := region.New(g.translated(set, dx, dy)...)
				if e != api.OK {
					t.Fatal("error", e)
				}
				got, e := region.Translate(l, dx, dy)
				checkOK(t, "Translate", got, e, want)
				if region.Area(got) == region.Area(l) {
					back, e := region.Translate(got, -dx, -dy)
					checkOK(t, "Translate back", back, e, g.canonical(set))
				}
			}
		}
	}
}

// P5.4: the limit counts the rectangles that remain.
func TestTranslateLimit(t *testing.T) {
	moved := func(l list, dx, dy int) (out list) {
		for _, r := range l {
			out = append(out, at(r.X0+dx, r.Y0+dy, r.X1+dx, r.Y1+dy))
		}
		return out
	}
	got, e := region.Translate(fence(0, 256), 5, -9)
	checkOK(t, "256 rectangles", got, e, moved(fence(0, 256), 5, -9))
	got, e = region.Translate(staircase(257), 5, -9)
	check(t, "257 rectangles", got, e, nil, api.ErrLimit)
	got, e = region.Translate(fence(0, 257), most-513, 0)
	check(t, "257 rectangles at the end of the square", got, e, nil, api.ErrLimit)
	got, e = region.Translate(fence(0, 257), most-512, 0)
	checkOK(t, "256 of 257 rectangles", got, e, moved(fence(0, 256), most-512, 0))
	got, e = region.Translate(staircase(1000), 0, -most-744)
	checkOK(t, "256 of 1000 rectangles", got, e, moved(staircase(1000)[744:], 0, -most-744))
	got, e = region.Translate(staircase(1000), 0, -most-743)
	check(t, "257 of 1000 rectangles", got, e, nil, api.ErrLimit)
	got, e = region.Translate(staircase(1000), math.MaxInt, 0)
	checkOK(t, "none of 1000 rectangles", got, e, nil)
	got, e = region.Translate(slices.Repeat(list{at(0, 0, 1, 1)}, 1000), 1, 1)
	checkOK(t, "1000 times the same", got, e, list{at(1, 1, 2, 2)})
}

// divided returns a list with the same points, in other rectangles and in another order.
func divided(source *rand.Rand, l list) (out list) {
	for _, r := range l {
		if x := (r.X0 + r.X1) >> 1; source.IntN(2) == 0 && x > r.X0 {
			out = append(out, at(r.X0, r.Y0, x, r.Y1), at(x, r.Y0, r.X1, r.Y1))
		} else if y := (r.Y0 + r.Y1) >> 1; source.IntN(2) == 0 && y > r.Y0 {
			out = append(out, at(r.X0, r.Y0, r.X1, y), at(r.X0, y, r.X1, r.Y1), at(r.X0, y, r.X1, r.Y1))
		} else {
			out = append(out, r, zero)
		}
	}
	return shuffled(source, out)
}

// P5.5: New depends only on the points.
func TestNewDependsOnPoints(t *testing.T) {
	source := numbers()
	for _, g := range grids {
		for range 300 {
			l := g.canonical(g.set(g.random(source, 8)))
			other := l
			for range 5 {
				other = divided(source, other)
				if !region.Equal(l, other) {
					t.Fatalf("%v and %v are not equal", l, other)
				}
				got, e := region.New(other...)
				checkOK(t, "New", got, e, l)
			}
		}
	}
}

// results calls all functions whose results are lists.
func results(a, b list) (out []list) {
	add := func(l list, e api.Errno) { out = append(out, l) }
	add(region.New(a...))
	add(region.Union(a, b))
	add(region.Union(a, nil))
	add(region.Union(nil, a))
	add(region.Intersect(a, b))
	add(region.Intersect(a, a))
	add(region.Subtract(a, b))
	add(region.Subtract(a, nil))
	add(region.Translate(a, 0, 0))
	add(region.Translate(a, 1, -1))
	return out
}

// R3 and R6: no function changes its arguments or the memory behind them, and their results depend on the arguments alone.
func TestArgumentsUnchanged(t *testing.T) {
	source := numbers()
	for _, g := range grids {
		for i := range 100 {
			a, b := g.random(source, 10), g.random(source, 10)
			if i%2 == 0 {
				a, b = g.canonical(g.set(a)), g.canonical(g.set(b))
			}
			longA := append(slices.Clone(a), at(1, 2, 3, 4), at(5, 6, 7, 8))
			longB := append(slices.Clone(b), at(4, 3, 2, 1), at(8, 7, 6, 5))
			wantA, wantB := slices.Clone(longA), slices.Clone(longB)
			first := results(longA[:len(a)], longB[:len(b)])
			region.IsCanonical(longA[:len(a)])
			region.Contains(longA[:len(a)], 0, 0)
			region.Area(longA[:len(a)])
			region.Bounds(longA[:len(a)])
			region.Equal(longA[:len(a)], longB[:len(b)])
			if !slices.Equal(longA, wantA) || !slices.Equal(longB, wantB) {
				t.Fatalf("%v and %v have changed", wantA, wantB)
			}
			for j, l := range results(a, b) {
				if !slices.Equal(l, first[j]) {
					t.Fatalf("%v and %v: %v, later %v", a, b, first[j], l)
				}
			}
		}
	}
}

// R3: results share memory neither with the arguments nor with each other.
func TestNewMemory(t *testing.T) {
	a, b := list{at(0, 0, 4, 1), at(0, 1, 3, 2), at(1, 2, 3, 3)}, list{at(1, 1, 2, 2), at(2, 2, 9, 9)}
	wantA, wantB := slices.Clone(a), slices.Clone(b)
	want := results(a, b)
	for i := range want {
		want[i] = slices.Clone(want[i])
	}
	first, second := results(a, b), results(a, b)
	for i, l := range first {
		clear(l[:cap(l)])
		for j := i + 1; j < len(first); j++ {
			if !slices.Equal(first[j], want[j]) {
				t.Fatalf("results %d and %d share memory", i, j)
			}
		}
	}
	for i := range second {
		if !slices.Equal(second[i], want[i]) {
			t.Fatalf("result %d shares memory with an earlier one", i)
		}
	}
	if !slices.Equal(a, wantA) || !slices.Equal(b, wantB) {
		t.Fatal("a result shares memory with an argument")
	}
}

// P1: all functions return for rectangles and numbers of the full range.
func TestFullRange(t *testing.T) {
	extreme := []int{math.MinInt, -most - 1, -most, 0, most, most + 1, math.MaxInt}
	var l list
	for _, x0 := range extreme {
		for _, y0 := range extreme {
			for _, x1 := range extreme {
				for _, y1 := range extreme {
					l = append(l, at(x0, y0, x1, y1))
				}
			}
		}
	}
	for i, r := range l {
		var want list
		if !rect.Empty(r) {
			want = list{r}
		}
		got, e := region.New(r)
		checkOK(t, "New", got, e, want)
		if region.IsCanonical(list{r}) == rect.Empty(r) || region.Area(list{r}) != rect.Area(r) || region.Bounds(list{r}) != rect.Canonical(r) {
			t.Fatalf("%v: canonical %t, area %d, bounds %v", r, region.IsCanonical(list{r}), region.Area(list{r}), region.Bounds(list{r}))
		}
		for _, n := range extreme {
			for _, m := range extreme {
				moved := rect.Translate(r, n, m)
				got, e := region.Translate(list{r}, n, m)
				if e != api.OK || region.Bounds(got) != moved || len(got) > 1 {
					t.Fatalf("%v by %d, %d: %v, error %d", r, n, m, got, e)
				}
				if region.Contains(list{r}, n, m) != rect.Contains(r, n, m) {
					t.Fatalf("%v contains %d, %d: %t", r, n, m, region.Contains(list{r}, n, m))
				}
			}
		}
		other := l[(i*31+7)%len(l)]
		checkPair(t, grid{-most, 0, most}, list{r}, list{other})
	}
	checkPair(t, grid{-most, 0, most}, l, l[:len(l)/2])
}

// FuzzRegions compares all functions with the model for lists whose rectangles are on the lines of a grid, or invalid: four bytes for each rectangle.
func FuzzRegions(f *testing.F) {
	f.Add([]byte{0, 0, 2, 2, 1, 1, 3, 3}, []byte{1, 0, 2, 1}, 0, 0)
	f.Add([]byte{0, 0, 1, 2, 1, 0, 2, 2}, []byte{0, 0, 2, 1, 0, 1, 2, 2}, 5, -most)
	f.Add([]byte{0, 0, 9, 8, 8, 8, 0, 0, 3, 3, 5, 4}, []byte{0, 0, 8, 8}, math.MaxInt, math.MinInt)
	f.Fuzz(func(t *testing.T, p, q []byte, x, y int) {
		g := grids[len(p)%3]
		a, b := g.decode(p), g.decode(q)
		set := g.set(a)
		want := g.canonical(set)
		got, e := region.New(a...)
		checkOK(t, "New", got, e, want)
		if region.IsCanonical(a) != slices.Equal(a, want) || region.Area(a) != g.area(set) || region.Bounds(a) != g.bounds(set) {
			t.Errorf("%v: canonical %t, area %d, bounds %v", a, region.IsCanonical(a), region.Area(a), region.Bounds(a))
		}
		in := slices.ContainsFunc(want, func(r api.Rect) bool { return r.X0 <= x && x < r.X1 && r.Y0 <= y && y < r.Y1 })
		if region.Contains(a, x, y) != in {
			t.Errorf("%v: contains %d, %d: %t", a, x, y, !in)
		}
		checkPair(t, g, a, b)
		dx, dy := min(max(x, -2*most), 2*most), min(max(y, -2*most), 2*most)
		moved := g.translated(set, dx, dy)
		got, e = region.Translate(a, x, y)
		if e != api.OK || !region.IsCanonical(got) || !region.Equal(got, moved) {
			t.Errorf("%v by %d, %d: got %v, error %d, want the points of %v", a, x, y, got, e, moved)
		}
	})
}

// decode returns a rectangle for every four bytes: the numbers of its lines, or an invalid coordinate for the number of lines.
func (g grid) decode(b []byte) (out list) {
	line := func(n byte) int {
		if i := int(n) % (len(g) + 1); i < len(g) {
			return g[i]
		}
		return most + 1 + int(n)
	}
	for c := range slices.Chunk(b[:min(len(b), 64)], 4) {
		if len(c) == 4 {
			out = append(out, at(line(c[0]), line(c[1]), line(c[2]), line(c[3])))
		}
	}
	return out
}
