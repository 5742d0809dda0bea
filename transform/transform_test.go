package transform_test

import (
	"math"
	"math/rand/v2"
	"slices"
	"testing"

	"compositor/api"
	"compositor/transform"
)

const (
	most  = api.MaxCoord
	count = 8
)

// extremes are numbers at and beyond every limit, with a few between them.
var extremes = []int{math.MinInt, math.MinInt + 1, math.MinInt32, -2 * most, -most - 1, -most, -most + 1, -257, -256, -9, -8, -7, -2, -1, 0, 1, 2, 3, 7, 8, 9,
	255, 256, 257, most - 1, most, most + 1, 2 * most, math.MaxInt32, math.MaxInt - 1, math.MaxInt}

// sizes are sizes of small images, those that are one pixel wide or high among them.
var sizes = [][2]int{{1, 1}, {1, 2}, {2, 1}, {1, 5}, {5, 1}, {2, 2}, {2, 3}, {3, 2}, {3, 3}, {4, 2}, {2, 4}, {5, 4}, {4, 7}}

// noTransforms returns numbers that are no transform, odd and even ones.
func noTransforms() []int {
	var out []int
	for _, n := range append(extremes, 10, 11, 12, 13, -3, -4, -5, -6) {
		if n < 0 || n > 7 {
			out = append(out, n)
		}
	}
	return out
}

// noSides returns numbers that are no width or height of an image.
func noSides() []int {
	return slices.DeleteFunc(slices.Clone(extremes), func(n int) bool { return n >= 1 && n <= most })
}

// numbers returns numbers that are the same in each run of the tests.
func numbers() *rand.Rand {
	return rand.New(rand.NewPCG(7, 7))
}

// at is short for a point.
func at(x, y int) api.Point {
	return api.Point{X: x, Y: y}
}

// box is short for a rectangle.
func box(x0, y0, x1, y1 int) api.Rect {
	return api.Rect{X0: x0, Y0: y0, X1: x1, Y1: y1}
}

// points yields all pixels of an image, row by row.
func points(w, h int) func(func(api.Point) bool) {
	return func(yield func(api.Point) bool) {
		for i := range w * h {
			if !yield(at(i%w, i/w)) {
				return
			}
		}
	}
}

// A picture is an image of letters, one string for each row.
type picture []string

// draw returns an image with another letter for each pixel.
func draw(w, h int) picture {
	var out picture
	for y := range h {
		row := ""
		for x := range w {
			row += string(rune('A' + y*w + x))
		}
		out = append(out, row)
	}
	return out
}

// flip exchanges left and right.
func (a picture) flip() picture {
	var out picture
	for _, row := range a {
		r := []rune(row)
		slices.Reverse(r)
		out = append(out, string(r))
	}
	return out
}

// turn rotates by 90 degrees, counter-clockwise: the rightmost column becomes the top row.
func (a picture) turn() picture {
	var out picture
	for x := len([]rune(a[0])) - 1; x >= 0; x-- {
		row := ""
		for _, r := range a {
			row += string([]rune(r)[x])
		}
		out = append(out, row)
	}
	return out
}

// transformed returns the transformed image by the names of the transforms: a flip first, then quarter turns.
func (a picture) transformed(t int) picture {
	if t < 0 || t > 7 {
		return a
	}
	if t >= 4 {
		a = a.flip()
	}
	for range t % 4 {
		a = a.turn()
	}
	return a
}

// mapped returns the picture of w by h letters that has the letters of a at the positions that Apply returns.
func (a picture) mapped(t, w, h int) picture {
	letters := make([][]rune, h)
	for y := range letters {
		letters[y] = slices.Repeat([]rune{'.'}, w)
	}
	for y, row := range a {
		for x, letter := range []rune(row) {
			p := transform.Apply(t, len([]rune(row)), len(a), at(x, y))
			if p.X >= 0 && p.X < w && p.Y >= 0 && p.Y < h {
				letters[p.Y][p.X] = letter
			}
		}
	}
	var out picture
	for _, row := range letters {
		out = append(out, string(row))
	}
	return out
}

// eight are the transformed images of ABC over DEF, written by hand from the table of the chapter.
var eight = [count]picture{
	{"ABC", "DEF"},
	{"CF", "BE", "AD"},
	{"FED", "CBA"},
	{"DA", "EB", "FC"},
	{"CBA", "FED"},
	{"AD", "BE", "CF"},
	{"DEF", "ABC"},
	{"FC", "EB", "DA"},
}

// buffer returns a valid buffer with another pixel at each of its first 65536 positions.
func buffer(w, h int) api.Buffer {
	b := api.Buffer{Width: w, Height: h, Pixels: make([]api.Pixel, w*h)}
	for i := range b.Pixels {
		b.Pixels[i] = api.Pixel{R: uint8(i), G: uint8(i >> 8), B: 255, A: 255}
	}
	return b
}

// P7.1: the transforms are the numbers from 0 to 7.
func TestValid(t *testing.T) {
	for n := range count {
		if !transform.Valid(n) {
			t.Errorf("%d is no transform", n)
		}
	}
	for _, n := range noTransforms() {
		if transform.Valid(n) {
			t.Errorf("%d is a transform", n)
		}
	}
}

// P7.1: products and inverses, the examples of the chapter among them.
func TestExamples(t *testing.T) {
	for _, x := range [][3]int{
		{api.Rotate90, api.Rotate90, api.Rotate180},
		{api.Flipped, api.Rotate90, api.Flipped90},
		{api.Rotate90, api.Flipped, api.Flipped270},
		{api.Rotate270, api.Rotate180, api.Rotate90},
		{api.Rotate180, api.Flipped, api.Flipped180},
		{api.Flipped, api.Rotate180, api.Flipped180},
		{api.Flipped90, api.Rotate90, api.Flipped180},
		{api.Flipped90, api.Flipped, api.Rotate270},
		{api.Flipped, api.Flipped90, api.Rotate90},
		{api.Flipped180, api.Flipped, api.Rotate180},
		{api.Flipped270, api.Flipped90, api.Rotate180},
	} {
		if got := transform.Compose(x[0], x[1]); got != x[2] {
			t.Errorf("%d followed by %d: got %d, want %d", x[0], x[1], got, x[2])
		}
	}
	for a, want := range [count]int{api.Normal, api.Rotate270, api.Rotate180, api.Rotate90, api.Flipped, api.Flipped90, api.Flipped180, api.Flipped270} {
		if got := transform.Invert(a); got != want {
			t.Errorf("inverse of %d: got %d, want %d", a, got, want)
		}
	}
}

// P7.1: the product of each pair of transforms has the effect of the one followed by the other.
func TestCompose(t *testing.T) {
	for a := range count {
		for b := range count {
			got := transform.Compose(a, b)
			if got < 0 || got >= count || !slices.Equal(eight[got], eight[a].transformed(b)) {
				t.Errorf("%d followed by %d: %d", a, b, got)
			}
		}
	}
}

// P7.1: the transforms are a group: Compose is associative, with the identity Normal and the inverses Invert.
func TestGroup(t *testing.T) {
	for a := range count {
		if transform.Compose(a, api.Normal) != a || transform.Compose(api.Normal, a) != a {
			t.Errorf("%d and Normal: %d and %d", a, transform.Compose(a, api.Normal), transform.Compose(api.Normal, a))
		}
		i := transform.Invert(a)
		if i < 0 || i >= count || transform.Compose(a, i) != api.Normal || transform.Compose(i, a) != api.Normal {
			t.Errorf("inverse of %d: %d", a, i)
		}
		for b := range count {
			for c := range count {
				left, right := transform.Compose(transform.Compose(a, b), c), transform.Compose(a, transform.Compose(b, c))
				if left != right {
					t.Errorf("%d, %d, %d: %d and %d", a, b, c, left, right)
				}
			}
		}
	}
}

// P7.1: numbers that are no transform count as Normal in products, inverses and sizes.
func TestNoTransform(t *testing.T) {
	for _, n := range noTransforms() {
		for a := range count {
			if transform.Compose(n, a) != a || transform.Compose(a, n) != a {
				t.Errorf("%d and %d: %d and %d", a, n, transform.Compose(a, n), transform.Compose(n, a))
			}
		}
		for _, m := range noTransforms() {
			if got := transform.Compose(n, m); got != api.Normal {
				t.Errorf("%d followed by %d: %d", n, m, got)
			}
		}
		if got := transform.Invert(n); got != api.Normal {
			t.Errorf("inverse of %d: %d", n, got)
		}
		if w, h := transform.Size(n, 4, 2); w != 4 || h != 2 {
			t.Errorf("size of %d: %d, %d", n, w, h)
		}
	}
}

// P7.1: odd transforms exchange width and height, whatever these are.
func TestSize(t *testing.T) {
	if w, h := transform.Size(api.Rotate90, 4, 2); w != 2 || h != 4 {
		t.Errorf("the example: %d, %d", w, h)
	}
	for _, w := range extremes {
		for _, h := range extremes {
			for n := range count {
				gotW, gotH := transform.Size(n, w, h)
				if n%2 == 0 && (gotW != w || gotH != h) || n%2 == 1 && (gotW != h || gotH != w) {
					t.Errorf("%d of %d, %d: %d, %d", n, w, h, gotW, gotH)
				}
			}
		}
	}
}

// P7.2: the positions of all pixels of an image, by hand, and the example of the chapter.
func TestApply(t *testing.T) {
	if got := transform.Apply(api.Rotate90, 4, 2, at(0, 0)); got != at(0, 3) {
		t.Errorf("the example: %v", got)
	}
	for n, want := range eight {
		if got := eight[0].mapped(n, len(want[0]), len(want)); !slices.Equal(got, want) {
			t.Errorf("%d: got %v, want %v", n, got, want)
		}
	}
}

// P7.2: the positions are those of flips and quarter turns, for small images of all shapes; numbers that are no transform count as Normal.
func TestApplyShapes(t *testing.T) {
	for _, s := range sizes {
		a := draw(s[0], s[1])
		for _, n := range append(noTransforms(), 0, 1, 2, 3, 4, 5, 6, 7) {
			want := a.transformed(n)
			if got := a.mapped(n, len([]rune(want[0])), len(want)); !slices.Equal(got, want) {
				t.Errorf("%d of %v: got %v, want %v", n, a, got, want)
			}
		}
	}
}

// P7.1 and P7.2: Apply is a bijection onto the pixels of an image of the size that Size returns; Compose and Invert agree with it.
func TestApplyBijection(t *testing.T) {
	for _, s := range sizes {
		w, h := s[0], s[1]
		for a := range count {
			aw, ah := transform.Size(a, w, h)
			found := map[api.Point]bool{}
			for p := range points(w, h) {
				q := transform.Apply(a, w, h, p)
				found[q] = true
				if q.X < 0 || q.X >= aw || q.Y < 0 || q.Y >= ah {
					t.Errorf("%d of %v in %d by %d: %v is beyond %d by %d", a, p, w, h, q, aw, ah)
				}
				if back := transform.Apply(transform.Invert(a), aw, ah, q); back != p {
					t.Errorf("%d of %v in %d by %d and back: %v", a, p, w, h, back)
				}
				for b := range count {
					if x, y := transform.Apply(b, aw, ah, q), transform.Apply(transform.Compose(a, b), w, h, p); x != y {
						t.Errorf("%d and %d of %v in %d by %d: one by one %v, at once %v", a, b, p, w, h, x, y)
					}
				}
			}
			if len(found) != w*h {
				t.Errorf("%d of %d by %d: %d positions", a, w, h, len(found))
			}
		}
	}
}

// P7.2: images of the greatest width and height.
func TestApplyGreatest(t *testing.T) {
	last := most - 1
	for n, want := range [count]api.Point{at(5, 7), at(7, last-5), at(last-5, last-7), at(last-7, 5), at(last-5, 7), at(7, 5), at(5, last-7), at(last-7, last-5)} {
		if got := transform.Apply(n, most, most, at(5, 7)); got != want {
			t.Errorf("%d of (5, 7): got %v, want %v", n, got, want)
		}
	}
	for n, want := range [count]api.Point{at(last, 0), at(0, 0), at(0, 0), at(0, last), at(0, 0), at(0, last), at(last, 0), at(0, 0)} {
		if got := transform.Apply(n, most, 1, at(last, 0)); got != want {
			t.Errorf("%d of the last pixel of a row: got %v, want %v", n, got, want)
		}
	}
	for n, want := range [count]api.Point{at(0, last), at(last, 0), at(0, 0), at(0, 0), at(0, last), at(last, 0), at(0, 0), at(0, 0)} {
		if got := transform.Apply(n, 1, most, at(0, last)); got != want {
			t.Errorf("%d of the last pixel of a column: got %v, want %v", n, got, want)
		}
	}
}

// P7.2: points that are no pixel of the image become the zero Point.
func TestApplyOutside(t *testing.T) {
	for _, s := range append(sizes, [2]int{most, most}, [2]int{1, most}, [2]int{most, 1}) {
		w, h := s[0], s[1]
		for _, x := range append(extremes, w-1, w, w+1) {
			for _, y := range append(extremes, h-1, h, h+1) {
				if x >= 0 && x < w && y >= 0 && y < h {
					continue
				}
				for _, n := range append(extremes, 4, 5, 6) {
					if got := transform.Apply(n, w, h, at(x, y)); got != at(0, 0) {
						t.Fatalf("%d of (%d, %d) in %d by %d: %v", n, x, y, w, h, got)
					}
				}
			}
		}
	}
}

// noImages returns widths and heights of which at least one is out of range.
func noImages() [][2]int {
	var out [][2]int
	for _, n := range noSides() {
		for _, m := range append(noSides(), 1, 2, 4, most) {
			out = append(out, [2]int{n, m}, [2]int{m, n})
		}
	}
	return out
}

// P7.2 and P7.3: images whose width or height is out of range have no pixels.
func TestNoImage(t *testing.T) {
	for _, s := range noImages() {
		w, h := s[0], s[1]
		for n := range count {
			for _, p := range []api.Point{at(0, 0), at(1, 0), at(0, 1), at(1, 1), at(-1, -1), at(3, 5), at(w, h), at(w-1, h-1), at(w+1, h+1), at(w/2, h/2)} {
				if got := transform.Apply(n, w, h, p); got != at(0, 0) {
					t.Errorf("%d of %v in %d by %d: %v", n, p, w, h, got)
				}
			}
			for _, r := range []api.Rect{box(0, 0, 1, 1), box(0, 0, 2, 3), box(1, 2, 3, 4), box(-most, -most, most, most), box(0, 0, w, h), box(w, h, 0, 0), box(-3, -2, -1, 0)} {
				if got := transform.ApplyRect(n, w, h, r); got != box(0, 0, 0, 0) {
					t.Errorf("%d of %v in %d by %d: %v", n, r, w, h, got)
				}
			}
		}
	}
}

// P7.3: rectangles in an image of 4 by 2 pixels, the example of the chapter among them.
func TestApplyRect(t *testing.T) {
	for _, x := range []struct {
		r    api.Rect
		want [count]api.Rect
	}{
		{box(0, 0, 1, 2), [count]api.Rect{box(0, 0, 1, 2), box(0, 3, 2, 4), box(3, 0, 4, 2), box(0, 0, 2, 1), box(3, 0, 4, 2), box(0, 0, 2, 1), box(0, 0, 1, 2), box(0, 3, 2, 4)}},
		{box(1, 1, 3, 2), [count]api.Rect{box(1, 1, 3, 2), box(1, 1, 2, 3), box(1, 0, 3, 1), box(0, 1, 1, 3), box(1, 1, 3, 2), box(1, 1, 2, 3), box(1, 0, 3, 1), box(0, 1, 1, 3)}},
		{box(-9, -9, 2, 1), [count]api.Rect{box(0, 0, 2, 1), box(0, 2, 1, 4), box(2, 1, 4, 2), box(1, 0, 2, 2), box(2, 0, 4, 1), box(0, 0, 1, 2), box(0, 1, 2, 2), box(1, 2, 2, 4)}},
		{box(-most, -most, most, most), [count]api.Rect{box(0, 0, 4, 2), box(0, 0, 2, 4), box(0, 0, 4, 2), box(0, 0, 2, 4), box(0, 0, 4, 2), box(0, 0, 2, 4), box(0, 0, 4, 2), box(0, 0, 2, 4)}},
		{box(4, 0, 9, 2), [count]api.Rect{}},
		{box(-5, 0, 0, 2), [count]api.Rect{}},
		{box(0, 2, 4, 9), [count]api.Rect{}},
		{box(0, -3, 4, 0), [count]api.Rect{}},
		{box(2, 1, 1, 0), [count]api.Rect{}},
		{box(1, 0, 1, 2), [count]api.Rect{}},
		{box(0, 1, 4, 1), [count]api.Rect{}},
		{box(0, 0, most+1, 2), [count]api.Rect{}},
		{box(0, 0, 4, math.MaxInt), [count]api.Rect{}},
		{box(-most-1, 0, 4, 2), [count]api.Rect{}},
		{box(0, math.MinInt, 4, 2), [count]api.Rect{}},
	} {
		for n, want := range x.want {
			if got := transform.ApplyRect(n, 4, 2, x.r); got != want {
				t.Errorf("%d of %v: got %v, want %v", n, x.r, got, want)
			}
		}
		for _, n := range noTransforms() {
			if got := transform.ApplyRect(n, 4, 2, x.r); got != x.want[api.Normal] {
				t.Errorf("%d of %v: got %v, want %v", n, x.r, got, x.want[api.Normal])
			}
		}
	}
}

// hasPixels is the definition of the pixels of a rectangle.
func hasPixels(r api.Rect) bool {
	return min(r.X0, r.Y0, r.X1, r.Y1) >= -most && max(r.X0, r.Y0, r.X1, r.Y1) <= most && r.X0 < r.X1 && r.Y0 < r.Y1
}

// wantRect returns the result of ApplyRect by its definition: the rectangle of the positions of all pixels.
func wantRect(n, w, h int, r api.Rect) api.Rect {
	out := box(math.MaxInt, math.MaxInt, math.MinInt, math.MinInt)
	for p := range points(w, h) {
		if hasPixels(r) && r.X0 <= p.X && p.X < r.X1 && r.Y0 <= p.Y && p.Y < r.Y1 {
			q := transform.Apply(n, w, h, p)
			out = box(min(out.X0, q.X), min(out.Y0, q.Y), max(out.X1, q.X+1), max(out.Y1, q.Y+1))
		}
	}
	if out.X0 > out.X1 {
		return api.Rect{}
	}
	return out
}

// P7.3: all rectangles in and around small images, and those that are empty or not valid, agree with the positions of their pixels.
func TestApplyRectPixels(t *testing.T) {
	for _, s := range sizes {
		w, h := s[0], s[1]
		xs, ys := []int{-most - 1, -most, -1, most, most + 1}, []int{-most - 1, -most, -1, most, most + 1}
		for x := range w + 2 {
			xs = append(xs, x)
		}
		for y := range h + 2 {
			ys = append(ys, y)
		}
		for _, x0 := range xs {
			for _, x1 := range xs {
				for _, y0 := range ys {
					for _, y1 := range ys {
						checkRect(t, w, h, box(x0, y0, x1, y1))
					}
				}
			}
		}
	}
}

// checkRect compares ApplyRect with its definition for two transforms, which are others for the next rectangle.
func checkRect(t *testing.T, w, h int, r api.Rect) {
	t.Helper()
	n := (r.X0 + 3*r.X1 + r.Y0 + 5*r.Y1) & 7
	for _, n := range []int{n, n ^ 5} {
		if got, want := transform.ApplyRect(n, w, h, r), wantRect(n, w, h, r); got != want {
			t.Fatalf("%d of %v in %d by %d: got %v, want %v", n, r, w, h, got, want)
		}
	}
}

// P7.3: rectangles in images of the greatest width and height, and back.
func TestApplyRectGreatest(t *testing.T) {
	for n, want := range [count]api.Rect{
		box(1, 2, 4, 9), box(2, most-4, 9, most-1), box(most-4, most-9, most-1, most-2), box(most-9, 1, most-2, 4),
		box(most-4, 2, most-1, 9), box(2, 1, 9, 4), box(1, most-9, 4, most-2), box(most-9, most-4, most-2, most-1),
	} {
		if got := transform.ApplyRect(n, most, most, box(1, 2, 4, 9)); got != want {
			t.Errorf("%d: got %v, want %v", n, got, want)
		}
		if got := transform.ApplyRect(transform.Invert(n), most, most, want); got != box(1, 2, 4, 9) {
			t.Errorf("%d and back: %v", n, got)
		}
		w, h := transform.Size(n, most, 3)
		if got := transform.ApplyRect(n, most, 3, box(-most, -most, most, most)); got != box(0, 0, w, h) {
			t.Errorf("%d of the whole image: %v", n, got)
		}
	}
}

// P7.3 and R5: a rectangle that is not valid has no pixels, whichever of its coordinates is beyond the limit.
func TestApplyRectNotValid(t *testing.T) {
	for _, n := range extremes {
		if n >= -most && n <= most {
			continue
		}
		for _, r := range []api.Rect{box(n, 0, 4, 2), box(0, n, 4, 2), box(0, 0, n, 2), box(0, 0, 4, n), box(n, n, 4, 2), box(0, 0, n, n), box(n, n, n, n)} {
			for a := range count {
				if got := transform.ApplyRect(a, 4, 2, r); got != box(0, 0, 0, 0) {
					t.Errorf("%d of %v: %v", a, r, got)
				}
			}
		}
	}
}

// letters returns the buffer whose pixels stand for the letters of a picture.
func letters(a picture) api.Buffer {
	b := api.Buffer{Height: len(a)}
	for _, row := range a {
		b.Width = len(row)
		for _, letter := range []byte(row) {
			b.Pixels = append(b.Pixels, api.Pixel{R: letter, G: letter / 2, B: 0, A: letter})
		}
	}
	return b
}

// same reports whether both buffers have the same size and pixels.
func same(a, b api.Buffer) bool {
	return a.Width == b.Width && a.Height == b.Height && slices.Equal(a.Pixels, b.Pixels)
}

// P7.4: the transformed images of one buffer, by hand.
func TestPixels(t *testing.T) {
	b := letters(eight[0])
	for n, want := range eight {
		if got := transform.Pixels(n, b); !same(got, letters(want)) {
			t.Errorf("%d: %v", n, got)
		}
	}
	for _, n := range noTransforms() {
		if got := transform.Pixels(n, b); !same(got, b) {
			t.Errorf("%d: %v", n, got)
		}
	}
}

// P7.4: the pixels of all positions, in buffers of all shapes up to the limits; transforming back restores the buffer.
func TestPixelsShapes(t *testing.T) {
	for _, s := range append(sizes, [2]int{256, 256}, [2]int{1, 256}, [2]int{256, 1}, [2]int{255, 3}, [2]int{2, 256}) {
		b := buffer(s[0], s[1])
		for n := range count {
			got := transform.Pixels(n, b)
			w, h := transform.Size(n, s[0], s[1])
			if got.Width != w || got.Height != h || len(got.Pixels) != w*h {
				t.Fatalf("%d of %v: %d by %d, %d pixels", n, s, got.Width, got.Height, len(got.Pixels))
			}
			for p := range points(s[0], s[1]) {
				if q := transform.Apply(n, s[0], s[1], p); got.Pixels[q.Y*w+q.X] != b.Pixels[p.Y*s[0]+p.X] {
					t.Fatalf("%d of %v: another pixel at %v than at %v", n, s, q, p)
				}
			}
			if back := transform.Pixels(transform.Invert(n), got); !same(back, b) {
				t.Errorf("%d of %v and back differs", n, s)
			}
		}
	}
}

// P7.1 and P7.4: applying the product is applying one and then the other.
func TestPixelsComposed(t *testing.T) {
	for _, s := range sizes {
		b := buffer(s[0], s[1])
		for x := range count {
			for y := range count {
				if !same(transform.Pixels(transform.Compose(x, y), b), transform.Pixels(y, transform.Pixels(x, b))) {
					t.Errorf("%d and %d of %v", x, y, s)
				}
			}
		}
	}
}

// P7.4: R, G and B are limited by A, which may be equal to them; buffers with such pixels are valid.
func TestPixelsPremultiplied(t *testing.T) {
	b := api.Buffer{Width: 2, Height: 2, Pixels: []api.Pixel{{}, {R: 255, G: 255, B: 255, A: 255}, {R: 7, G: 7, B: 7, A: 7}, {A: 3}}}
	want := api.Buffer{Width: 2, Height: 2, Pixels: []api.Pixel{{R: 255, G: 255, B: 255, A: 255}, {A: 3}, {}, {R: 7, G: 7, B: 7, A: 7}}}
	if got := transform.Pixels(api.Rotate90, b); !same(got, want) {
		t.Errorf("got %v", got)
	}
}

// notValid returns buffers that are not valid: their sizes, their numbers of pixels, and their pixels.
func notValid() []api.Buffer {
	var out []api.Buffer
	for _, n := range append(extremes, 1<<32, -1<<32, 1<<62) {
		for _, m := range []int{n, 1, 2, 256} {
			if n >= 1 && n <= 256 {
				continue
			}
			for _, pixels := range []int{0, 1, n * m & 0xfffff} { // the product may be one that overflows
				out = append(out, api.Buffer{Width: n, Height: m, Pixels: make([]api.Pixel, pixels)}, api.Buffer{Width: m, Height: n, Pixels: make([]api.Pixel, pixels)})
			}
		}
	}
	for _, s := range append(sizes, [2]int{256, 256}) {
		n := s[0] * s[1]
		for _, pixels := range []int{0, n - 1, n + 1, 2 * n, n + s[0]} {
			out = append(out, api.Buffer{Width: s[0], Height: s[1], Pixels: make([]api.Pixel, pixels)})
		}
		for _, i := range []int{0, n / 2, n - 1} {
			for _, p := range []api.Pixel{{R: 8, A: 7}, {G: 8, A: 7}, {B: 8, A: 7}, {R: 255, A: 254}, {G: 255, A: 254}, {B: 1}, {R: 9, G: 9, B: 10, A: 9}} {
				b := buffer(s[0], s[1])
				b.Pixels[i] = p
				out = append(out, b)
			}
		}
	}
	return append(out, api.Buffer{})
}

// P7.4: a buffer that is not valid becomes the zero Buffer.
func TestPixelsNotValid(t *testing.T) {
	for _, b := range notValid() {
		for _, n := range []int{0, 1, 2, 3, 4, 5, 6, 7, -1, 8} {
			if got := transform.Pixels(n, b); got.Width != 0 || got.Height != 0 || len(got.Pixels) != 0 {
				t.Fatalf("%d of %d by %d with %d pixels: %d by %d with %d pixels", n, b.Width, b.Height, len(b.Pixels), got.Width, got.Height, len(got.Pixels))
			}
		}
	}
}

// P7.4: widths and heights of MaxSize are in range, and those of one more are not.
func TestPixelsLimits(t *testing.T) {
	for _, s := range [][2]int{{256, 1}, {1, 256}, {256, 256}, {255, 256}} {
		if got := transform.Pixels(api.Flipped, buffer(s[0], s[1])); len(got.Pixels) != s[0]*s[1] {
			t.Errorf("%v: %d pixels", s, len(got.Pixels))
		}
	}
	for _, s := range [][2]int{{257, 1}, {1, 257}, {257, 256}, {256, 257}} {
		if got := transform.Pixels(api.Flipped, buffer(s[0], s[1])); got.Width != 0 || got.Height != 0 || len(got.Pixels) != 0 {
			t.Errorf("%v: %d by %d with %d pixels", s, got.Width, got.Height, len(got.Pixels))
		}
	}
}

// R3: Pixels neither changes nor keeps its argument, its spare capacity included, and its result is new memory for every transform.
func TestPixelsNewMemory(t *testing.T) {
	for n := -1; n <= count; n++ {
		b := buffer(3, 2)
		spare := append(b.Pixels, api.Pixel{A: 9}, api.Pixel{A: 8})
		b.Pixels = spare[:6]
		before := slices.Clone(spare)
		got := transform.Pixels(n, b)
		want := slices.Clone(got.Pixels)
		clear(spare)
		if !slices.Equal(got.Pixels, want) {
			t.Errorf("%d: the result changes with the argument", n)
		}
		copy(spare, before)
		clear(got.Pixels[:cap(got.Pixels)])
		if !slices.Equal(spare, before) {
			t.Errorf("%d: the argument changes with the result", n)
		}
	}
}

// R6: results depend on the arguments only, whatever was called before.
func TestPixelsRepeated(t *testing.T) {
	source := numbers()
	first := map[[3]int][]api.Pixel{}
	for range 300 {
		key := [3]int{source.IntN(10) - 1, 1 + source.IntN(4), 1 + source.IntN(4)}
		got := transform.Pixels(key[0], buffer(key[1], key[2])).Pixels
		if want, ok := first[key]; ok && !slices.Equal(got, want) {
			t.Fatalf("%v: other pixels than before", key)
		}
		first[key] = slices.Clone(got)
		clear(got)
	}
}

// P1: every function returns for numbers of the full range.
func TestFullRange(t *testing.T) {
	source := numbers()
	pick := func() int { return extremes[source.IntN(len(extremes))] }
	for range 200000 {
		n, w, h := pick(), pick(), pick()
		transform.Compose(n, w)
		transform.Size(n, w, h)
		p := transform.Apply(n, w, h, at(pick(), pick()))
		r := transform.ApplyRect(n, w, h, box(pick(), pick(), pick(), pick()))
		outW, outH := transform.Size(n, w, h)
		if p.X < 0 || p.Y < 0 || p != at(0, 0) && (p.X >= outW || p.Y >= outH) {
			t.Fatalf("%d in %d by %d: %v", n, w, h, p)
		}
		if r != box(0, 0, 0, 0) && (!hasPixels(r) || r.X0 < 0 || r.Y0 < 0 || r.X1 > outW || r.Y1 > outH) {
			t.Fatalf("%d in %d by %d: %v", n, w, h, r)
		}
	}
}

// P7.1 to P7.4: any transforms, sizes and rectangles, against the definitions and one another.
func FuzzTransforms(f *testing.F) {
	f.Add(1, 5, 4, 2, 0, 0, 1, 2)
	f.Add(7, 3, most, most, 5, -2, most, most)
	f.Add(-1, 8, 1, 0, 0, 0, 0, 0)
	f.Add(6, 2, 17, 3, -5, 1, most+1, 2)
	f.Fuzz(func(t *testing.T, a, b, w, h, x0, y0, x1, y1 int) {
		product, p, r := transform.Compose(a, b), at(x0, y0), box(x0, y0, x1, y1)
		aw, ah := transform.Size(a, w, h)
		inside := w >= 1 && w <= most && h >= 1 && h <= most && x0 >= 0 && x0 < w && y0 >= 0 && y0 < h
		q := transform.Apply(a, w, h, p)
		if inside && (transform.Apply(transform.Invert(a), aw, ah, q) != p || transform.Apply(b, aw, ah, q) != transform.Apply(product, w, h, p)) || !inside && q != at(0, 0) {
			t.Fatalf("Apply: %v", q)
		}
		moved := transform.ApplyRect(a, w, h, r)
		if transform.ApplyRect(b, aw, ah, moved) != transform.ApplyRect(product, w, h, r) {
			t.Fatalf("ApplyRect: %v", moved)
		}
		w, h = w&15+1, h&15+1
		if got := transform.ApplyRect(a, w, h, r); got != wantRect(a, w, h, r) {
			t.Fatalf("ApplyRect in %d by %d: %v", w, h, got)
		}
		small := buffer(w, h)
		if !same(transform.Pixels(product, small), transform.Pixels(b, transform.Pixels(a, small))) {
			t.Fatalf("Pixels of %d by %d", w, h)
		}
	})
}
