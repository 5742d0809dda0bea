package scale_test

import (
	"math"
	"math/big"
	"math/rand/v2"
	"slices"
	"testing"

	"compositor/api"
	"compositor/buffer"
	"compositor/pixel"
	"compositor/scale"
)

const (
	most  = api.MaxSize
	limit = api.MaxCoord
)

// extremes are numbers at and beyond every limit, and such that sums and products of them overflow, with a few between them.
var extremes = []int{math.MinInt, math.MinInt + 1, -1 << 62, -1 << 56, -1 << 32, math.MinInt32, -1 << 16, -limit - 1, -limit, -most - 1, -most, -2, -1,
	0, 1, 2, 3, 7, 127, 128, 129, most - 1, most, most + 1, limit - 1, limit, limit + 1, 1 << 16, 1 << 24, math.MaxInt32, 1 << 32, 1<<32 + 1, 1 << 56, 1<<56 + 1, 1 << 62, math.MaxInt - 1, math.MaxInt}

// sides are widths and heights of valid buffers: the limits, powers of two, primes, and numbers beside them.
var sides = []int{1, 2, 3, 4, 5, 7, 16, 97, 127, 128, 129, 192, 251, most - 1, most}

// noSides returns numbers that are no width or height of a valid buffer.
func noSides() []int {
	return slices.DeleteFunc(slices.Clone(extremes), func(n int) bool { return n >= 1 && n <= most })
}

// px is short for a pixel.
func px(r, g, b, a uint8) api.Pixel {
	return api.Pixel{R: r, G: g, B: b, A: a}
}

// frame is short for a rectangle.
func frame(x0, y0, x1, y1 int) api.Rect {
	return api.Rect{X0: x0, Y0: y0, X1: x1, Y1: y1}
}

// alphas returns the buffer of w columns with these numbers in the alpha components only.
func alphas(w int, l ...uint8) api.Buffer {
	out := api.Buffer{Width: w, Height: len(l) / w}
	for _, a := range l {
		out.Pixels = append(out.Pixels, px(0, 0, 0, a))
	}
	return out
}

// plain returns a buffer with the same pixel everywhere.
func plain(w, h int, p api.Pixel) api.Buffer {
	return api.Buffer{Width: w, Height: h, Pixels: slices.Repeat([]api.Pixel{p}, w*h)}
}

// numbers returns numbers that are the same in each run of the tests.
func numbers() *rand.Rand {
	return rand.New(rand.NewPCG(10, 10))
}

// noisy returns a valid buffer of random pixels.
func noisy(random *rand.Rand, w, h int) api.Buffer {
	out := plain(w, h, api.Pixel{})
	for i := range out.Pixels {
		n := random.Uint32()
		out.Pixels[i] = pixel.Clamp(px(uint8(n), uint8(n>>8), uint8(n>>16), uint8(n>>24)))
	}
	return out
}

// bad returns buffers that are not valid: with sizes out of range, with too few or too many pixels, and with pixels that are not valid.
func bad() []api.Buffer {
	p := px(1, 2, 3, 4)
	out := []api.Buffer{{}, {Width: 2, Height: 2}, {Pixels: plain(1, 1, p).Pixels}, {Width: -2, Height: -3, Pixels: plain(3, 2, p).Pixels},
		plain(most+1, 1, p), plain(1, most+1, p), plain(2*most, 2, p), plain(most+1, most+1, p)}
	for _, n := range noSides() {
		out = append(out, api.Buffer{Width: n, Height: 2, Pixels: plain(2, 2, p).Pixels}, api.Buffer{Width: 2, Height: n, Pixels: plain(2, 2, p).Pixels}, api.Buffer{Width: n, Height: n})
	}
	for _, n := range []int{1, 2, 5, 7, 12, most} {
		out = append(out, api.Buffer{Width: 3, Height: 2, Pixels: plain(n, 1, p).Pixels})
	}
	for _, invalid := range []api.Pixel{px(5, 4, 4, 4), px(4, 5, 4, 4), px(4, 4, 5, 4), px(255, 255, 255, 254), px(0, 0, 1, 0)} {
		for i := range 4 {
			b := plain(2, 2, p)
			b.Pixels[i] = invalid
			out = append(out, b)
		}
	}
	large := plain(most, most, p)
	large.Pixels[most*most-1] = px(1, 0, 0, 0)
	return append(out, large, plain(1, 1, px(2, 1, 1, 1)))
}

// brief returns what to print of a buffer.
func brief(b api.Buffer) []any {
	return []any{b.Width, b.Height, len(b.Pixels), b.Pixels[:min(len(b.Pixels), 12)]}
}

// same reports whether two buffers are equal.
func same(a, b api.Buffer) bool {
	return a.Width == b.Width && a.Height == b.Height && slices.Equal(a.Pixels, b.Pixels)
}

// gives checks a buffer that was returned with an error code, which must be OK.
func gives(t *testing.T, got api.Buffer, e api.Errno, want api.Buffer, what ...any) {
	t.Helper()
	if e != api.OK || !same(got, want) {
		t.Fatalf("%v: got %v and %d, want %v", what, brief(got), e, brief(want))
	}
}

// refuses checks an error code and that the buffer returned with it is zero.
func refuses(t *testing.T, got api.Buffer, e api.Errno, want api.Errno, what ...any) {
	t.Helper()
	if e != want || !same(got, api.Buffer{}) {
		t.Fatalf("%v: got %v and %d, want the error %d", what, brief(got), e, want)
	}
}

// A weight is how many units of a column or row are covered.
type weight struct{ at, units int }

// weights returns, for each of to columns or rows, which of the from columns or rows that are scaled to them it covers. It assigns from * to units one by one.
func weights(from, to int) [][]weight {
	out := make([][]weight, to)
	for u := range from * to {
		l := &out[u/from]
		if n := len(*l); n > 0 && (*l)[n-1].at == u/to {
			(*l)[n-1].units++
			continue
		}
		*l = append(*l, weight{u / to, 1})
	}
	return out
}

// components returns the four components of a pixel.
func components(p api.Pixel) [4]int {
	return [4]int{int(p.R), int(p.G), int(p.B), int(p.A)}
}

// rounds reports whether n is the nearest integer to sum / total, halves up.
func rounds(n, sum, total int) bool {
	return (2*n-1)*total <= 2*sum && 2*sum < (2*n+1)*total
}

// checkBox checks every component that Box returns by the definition.
func checkBox(t *testing.T, b api.Buffer, w, h int) {
	t.Helper()
	got, e := scale.Box(b, w, h)
	if e != api.OK || got.Width != w || got.Height != h || len(got.Pixels) != w*h {
		t.Fatalf("Box of %v to %d by %d: %v, %d", brief(b), w, h, brief(got), e)
	}
	columns, rows := weights(b.Width, w), weights(b.Height, h)
	for i, p := range got.Pixels {
		var sums [4]int
		total := 0
		for _, row := range rows[i/w] {
			for _, column := range columns[i%w] {
				units := row.units * column.units
				total += units
				for k, c := range components(b.Pixels[row.at*b.Width+column.at]) {
					sums[k] += units * c
				}
			}
		}
		for k, c := range components(p) {
			if !rounds(c, sums[k], total) {
				t.Fatalf("Box of %v to %d by %d: pixel (%d, %d) is %v, component %d should be %d / %d", brief(b), w, h, i%w, i/w, p, k, sums[k], total)
			}
		}
	}
}

// under returns the column n of from columns with n <= (2 * x + 1) * from / (2 * to) < n + 1, for to columns.
func under(x, from, to int) int {
	n := 0
	for (n+1)*2*to <= (2*x+1)*from {
		n++
	}
	return n
}

// checkNearest checks every pixel that Nearest returns by the definition.
func checkNearest(t *testing.T, b api.Buffer, w, h int) {
	t.Helper()
	want := plain(w, h, api.Pixel{})
	columns := make([]int, w)
	for x := range w {
		columns[x] = under(x, b.Width, w)
	}
	for y := range h {
		row := under(y, b.Height, h)
		for x := range w {
			want.Pixels[y*w+x] = b.Pixels[row*b.Width+columns[x]]
		}
	}
	got, e := scale.Nearest(b, w, h)
	gives(t, got, e, want, "Nearest", brief(b), w, h)
}

// P10.1: results by hand: the chapter's example, columns and rows, smaller and greater, in both directions at once.
func TestNearest(t *testing.T) {
	row, column, both := alphas(4, 10, 20, 30, 40), alphas(1, 10, 20, 30, 40), alphas(3, 10, 20, 30, 40, 50, 60)
	for _, x := range []struct{ b, want api.Buffer }{
		{row, alphas(2, 20, 40)},
		{row, alphas(3, 10, 30, 40)},
		{row, alphas(1, 30)},
		{row, row},
		{row, alphas(5, 10, 20, 30, 30, 40)},
		{row, alphas(8, 10, 10, 20, 20, 30, 30, 40, 40)},
		{row, alphas(2, 20, 40, 20, 40, 20, 40)},
		{column, alphas(1, 20, 40)},
		{column, alphas(1, 10, 30, 40)},
		{column, alphas(2, 10, 10, 30, 30, 40, 40)},
		{both, both},
		{both, alphas(1, 50)},
		{both, alphas(2, 40, 60)},
		{both, alphas(2, 10, 30, 40, 60, 40, 60)},
		{both, alphas(4, 10, 20, 20, 30, 40, 50, 50, 60)},
		{both, alphas(5, 40, 40, 50, 60, 60)},
		{alphas(1, 9), alphas(3, 9, 9, 9, 9, 9, 9)},
	} {
		got, e := scale.Nearest(x.b, x.want.Width, x.want.Height)
		gives(t, got, e, x.want, "Nearest", x.b)
	}
}

// P10.2: results by hand: the chapter's example, halves, columns and rows, smaller and greater, in both directions at once.
func TestBox(t *testing.T) {
	row, column, both := alphas(4, 10, 20, 30, 40), alphas(1, 10, 20, 30, 40), alphas(3, 10, 20, 30, 40, 50, 60)
	for _, x := range []struct{ b, want api.Buffer }{
		{row, alphas(2, 15, 35)},
		{row, alphas(3, 13, 25, 38)},
		{row, alphas(1, 25)},
		{row, row},
		{row, alphas(5, 10, 18, 25, 33, 40)},
		{row, alphas(8, 10, 10, 20, 20, 30, 30, 40, 40)},
		{row, alphas(2, 15, 35, 15, 35, 15, 35)},
		{column, alphas(1, 15, 35)},
		{column, alphas(1, 13, 25, 38)},
		{column, alphas(2, 13, 13, 25, 25, 38, 38)},
		{both, both},
		{both, alphas(1, 35)},
		{both, alphas(2, 28, 42)},
		{both, alphas(2, 13, 27, 28, 42, 43, 57)},
		{both, alphas(4, 10, 17, 23, 30, 40, 47, 53, 60)},
		{alphas(1, 9), alphas(3, 9, 9, 9, 9, 9, 9)},
		{alphas(2, 0, 1), alphas(1, 1)},
		{alphas(2, 254, 255), alphas(1, 255)},
		{alphas(3, 0, 1, 0), alphas(1, 0)},
		{alphas(3, 1, 0, 1), alphas(1, 1)},
		{alphas(3, 0, 1, 0), alphas(2, 0, 0)},
		{alphas(3, 0, 2, 0), alphas(2, 1, 1)},
		{alphas(2, 1, 2, 2, 1), alphas(1, 2)},
		{alphas(2, 0, 0, 0, 1), alphas(1, 0)},
		{alphas(2, 0, 0, 1, 1), alphas(1, 1)},
	} {
		got, e := scale.Box(x.b, x.want.Width, x.want.Height)
		gives(t, got, e, x.want, "Box", x.b)
	}
}

// only returns the pixel whose component k is n and whose others are 255; as all components are at most the alpha, the pixel for the alpha has n everywhere.
func only(k int, n uint8) api.Pixel {
	return []api.Pixel{px(n, 255, 255, 255), px(255, n, 255, 255), px(255, 255, n, 255), px(n, n, n, n)}[k]
}

// P10.2: averages that are exactly a half, in each of the components and for every integer; and one that misses it by the least possible.
func TestBoxHalves(t *testing.T) {
	for n := range uint8(255) {
		for k := range 4 {
			low, high := only(k, n), only(k, n+1)
			got, e := scale.Box(api.Buffer{Width: 2, Height: 1, Pixels: []api.Pixel{low, high}}, 1, 1)
			gives(t, got, e, plain(1, 1, high), "a half above", low)
			got, e = scale.Box(api.Buffer{Width: 1, Height: 3, Pixels: []api.Pixel{low, high, low}}, 1, 1)
			gives(t, got, e, plain(1, 1, low), "a third above", low)
		}
	}
	b := plain(most, most, px(0, 0, 0, 100))
	for i := range most * most / 2 {
		b.Pixels[2*i].A = 101
	}
	got, e := scale.Box(b, 1, 1)
	gives(t, got, e, alphas(1, 101), "half of all pixels")
	b.Pixels[most*most-2].A = 100
	got, e = scale.Box(b, 1, 1)
	gives(t, got, e, alphas(1, 100), "one fewer than half of all pixels")
}

// P10.1 and P10.2: each component depends on that component alone, which is at its own place.
func TestComponents(t *testing.T) {
	first, second := px(10, 20, 30, 200), px(40, 30, 20, 101)
	b := api.Buffer{Width: 2, Height: 1, Pixels: []api.Pixel{first, second}}
	got, e := scale.Box(b, 1, 1)
	gives(t, got, e, plain(1, 1, px(25, 25, 25, 151)), "Box")
	got, e = scale.Box(b, 3, 1)
	gives(t, got, e, api.Buffer{Width: 3, Height: 1, Pixels: []api.Pixel{first, px(25, 25, 25, 151), second}}, "Box")
	got, e = scale.Nearest(b, 3, 1)
	gives(t, got, e, api.Buffer{Width: 3, Height: 1, Pixels: []api.Pixel{first, second, second}}, "Nearest")
	got, e = scale.Box(api.Buffer{Width: 1, Height: 2, Pixels: []api.Pixel{px(1, 0, 0, 9), px(0, 2, 3, 9)}}, 1, 1)
	gives(t, got, e, plain(1, 1, px(1, 1, 2, 9)), "Box")
}

// P10.1 and P10.2: rows and columns of many sizes, scaled to every size.
func TestLines(t *testing.T) {
	random := numbers()
	for _, n := range sides {
		row, column := noisy(random, n, 1), noisy(random, 1, n)
		for k := 1; k <= most; k++ {
			checkNearest(t, row, k, 1)
			checkNearest(t, column, 1, k)
			checkBox(t, row, k, 1)
			checkBox(t, column, 1, k)
		}
	}
}

// P10.1 and P10.2: all small sizes, scaled to all small sizes.
func TestSmall(t *testing.T) {
	random := numbers()
	for i := range 6 * 6 * 6 * 6 {
		b := noisy(random, 1+i%6, 1+i/6%6)
		checkNearest(t, b, 1+i/36%6, 1+i/216)
		checkBox(t, b, 1+i/36%6, 1+i/216)
	}
}

// P10.1 and P10.2: the greatest sizes in one direction or both, scaled to great and small ones.
func TestLarge(t *testing.T) {
	random := numbers()
	sizes := [][2]int{{most, most}, {1, 1}, {most, 1}, {1, most}, {most - 1, most}, {128, 64}, {3, 200}, {97, 5}}
	for _, from := range append(sizes, [2]int{251, 129}) {
		b := noisy(random, from[0], from[1])
		for _, to := range sizes {
			checkNearest(t, b, to[0], to[1])
			checkBox(t, b, to[0], to[1])
		}
	}
}

// P10.1 and P10.2: buffers that are not valid, sizes that are not valid, and both at once.
func TestSizeErrors(t *testing.T) {
	for _, scaled := range []func(api.Buffer, int, int) (api.Buffer, api.Errno){scale.Nearest, scale.Box} {
		for _, b := range bad() {
			for _, size := range [][2]int{{1, 1}, {2, 2}, {most, most}, {b.Width, b.Height}, {0, 0}, {-1, 5}, {most + 1, 1}, {math.MinInt, math.MaxInt}} {
				got, e := scaled(b, size[0], size[1])
				refuses(t, got, e, api.ErrBuffer, brief(b), size)
			}
		}
		for _, b := range []api.Buffer{alphas(1, 1), alphas(3, 1, 2, 3, 4, 5, 6), plain(most, most, px(1, 2, 3, 4))} {
			for _, n := range noSides() {
				for _, size := range [][2]int{{n, 1}, {1, n}, {n, most}, {most, n}, {n, n}, {-n, n}, {n, 1 << 56}} {
					got, e := scaled(b, size[0], size[1])
					refuses(t, got, e, api.ErrRange, brief(b), size)
				}
			}
		}
	}
}

// blocks returns what Shrink is said to return also: the averages of the blocks.
func blocks(b api.Buffer, k int) api.Buffer {
	out := plain(b.Width/k, b.Height/k, api.Pixel{})
	for i := range out.Pixels {
		var block []api.Pixel
		for j := range k * k {
			block = append(block, b.Pixels[(i/out.Width*k+j/k)*b.Width+i%out.Width*k+j%k])
		}
		out.Pixels[i] = pixel.Average(block...)
	}
	return out
}

// P10.3: results by hand, and for many sizes and all factors that divide them, the factor 1 and the whole size among them; Shrink is Box and averages blocks.
func TestShrink(t *testing.T) {
	got, e := scale.Shrink(alphas(4, 10, 21, 30, 41, 11, 20, 31, 40), 2)
	gives(t, got, e, alphas(2, 16, 36), "by 2")
	got, e = scale.Shrink(alphas(3, 1, 2, 3, 4, 5, 6, 7, 8, 14), 3)
	gives(t, got, e, alphas(1, 6), "by 3")
	random := numbers()
	for _, size := range [][2]int{{1, 1}, {6, 4}, {12, 18}, {9, 9}, {1, most}, {most, 1}, {most, most}, {most, 3}, {120, 240}, {251, 251}, {192, most}} {
		b := noisy(random, size[0], size[1])
		for k := 1; k <= most+2; k++ {
			got, e := scale.Shrink(b, k)
			if b.Width%k != 0 || b.Height%k != 0 {
				refuses(t, got, e, api.ErrArgument, "Shrink", size, k)
				continue
			}
			gives(t, got, e, blocks(b, k), "Shrink", size, k)
			boxed, e := scale.Box(b, b.Width/k, b.Height/k)
			gives(t, boxed, e, got, "Box", size, k)
		}
	}
}

// P10.3: factors that do not divide one of the sides or both, or are no factors at all; buffers that are not valid, also together with them.
func TestShrinkErrors(t *testing.T) {
	for _, x := range []struct {
		w, h, k int
	}{{2, 1, 2}, {1, 2, 2}, {1, 1, 2}, {4, 6, 4}, {6, 4, 4}, {6, 6, 4}, {2, 2, 4}, {3, 3, 2}, {most, most - 1, 2}, {most, most, 3}, {most, most, most * 2}, {255, 255, 256}} {
		got, e := scale.Shrink(plain(x.w, x.h, px(1, 2, 3, 4)), x.k)
		refuses(t, got, e, api.ErrArgument, "Shrink", x)
	}
	for _, k := range extremes {
		for _, b := range bad() {
			got, e := scale.Shrink(b, k)
			refuses(t, got, e, api.ErrBuffer, "Shrink", brief(b), k)
		}
		for _, side := range []int{1, 6, most} {
			b := plain(side, side, px(1, 2, 3, 4))
			got, e := scale.Shrink(b, k)
			if k < 1 || side%k != 0 {
				refuses(t, got, e, api.ErrArgument, "Shrink", side, k)
				continue
			}
			gives(t, got, e, plain(side/k, side/k, px(1, 2, 3, 4)), "Shrink", side, k)
		}
	}
}

// enlarged is the definition of Enlarge, for a factor that is allowed. It paints block by block.
func enlarged(b api.Buffer, k int) api.Buffer {
	out := plain(b.Width*k, b.Height*k, api.Pixel{})
	for i, p := range b.Pixels {
		for j := range k * k {
			out.Pixels[(i/b.Width*k+j/k)*out.Width+i%b.Width*k+j%k] = p
		}
	}
	return out
}

// P10.4: results by hand, and for many sizes all factors up to the greatest one, and the next one.
func TestEnlarge(t *testing.T) {
	got, e := scale.Enlarge(alphas(2, 1, 2, 3, 4), 2)
	gives(t, got, e, alphas(4, 1, 1, 2, 2, 1, 1, 2, 2, 3, 3, 4, 4, 3, 3, 4, 4), "by 2")
	got, e = scale.Enlarge(alphas(1, 7), 3)
	gives(t, got, e, alphas(3, 7, 7, 7, 7, 7, 7, 7, 7, 7), "by 3")
	random := numbers()
	for _, size := range [][2]int{{1, 1}, {2, 1}, {1, 2}, {3, 5}, {16, 12}, {85, 86}, {127, 128}, {129, 1}, {1, 129}, {most, most}, {most, 1}, {1, most}} {
		b := noisy(random, size[0], size[1])
		for k := 1; k <= most+1; k++ {
			got, e := scale.Enlarge(b, k)
			if b.Width*k > most || b.Height*k > most {
				refuses(t, got, e, api.ErrLimit, "Enlarge", size, k)
				continue
			}
			gives(t, got, e, enlarged(b, k), "Enlarge", size, k)
		}
	}
}

// P10.4: factors that are too great in one direction or both, whatever products overflow, or no factors at all; buffers that are not valid, also together with them.
func TestEnlargeErrors(t *testing.T) {
	for _, x := range []struct {
		w, h, k int
	}{{129, 1, 2}, {1, 129, 2}, {most, 1, 2}, {1, most, 2}, {86, 85, 3}, {85, 86, 3}, {1, 1, most + 1}, {2, 1, 129}, {1, 2, 129}} {
		got, e := scale.Enlarge(plain(x.w, x.h, px(1, 2, 3, 4)), x.k)
		refuses(t, got, e, api.ErrLimit, "Enlarge", x)
	}
	for _, k := range extremes {
		for _, b := range bad() {
			got, e := scale.Enlarge(b, k)
			refuses(t, got, e, api.ErrBuffer, "Enlarge", brief(b), k)
		}
		for _, size := range [][2]int{{1, 1}, {2, 4}, {most, 16}, {1, 128}, {most, most}} {
			b := plain(size[0], size[1], px(1, 2, 3, 4))
			got, e := scale.Enlarge(b, k)
			switch {
			case k < 1:
				refuses(t, got, e, api.ErrArgument, "Enlarge", size, k)
			case k > most/size[0] || k > most/size[1]:
				refuses(t, got, e, api.ErrLimit, "Enlarge", size, k)
			default:
				gives(t, got, e, plain(k*size[0], k*size[1], px(1, 2, 3, 4)), "Enlarge", size, k)
			}
		}
	}
}

// P10.1 to P10.4: scaling to the same size, and by the factor 1, changes nothing.
func TestSameSize(t *testing.T) {
	random := numbers()
	for _, w := range sides {
		for _, h := range sides {
			b := noisy(random, w, h)
			got, e := scale.Nearest(b, w, h)
			gives(t, got, e, b, "Nearest", w, h)
			got, e = scale.Box(b, w, h)
			gives(t, got, e, b, "Box", w, h)
			got, e = scale.Shrink(b, 1)
			gives(t, got, e, b, "Shrink", w, h)
			got, e = scale.Enlarge(b, 1)
			gives(t, got, e, b, "Enlarge", w, h)
		}
	}
}

// P10.3 and P10.4: Shrink undoes Enlarge, for all factors; so do Box and Nearest.
func TestShrinkUndoesEnlarge(t *testing.T) {
	random := numbers()
	for _, size := range [][2]int{{1, 1}, {2, 3}, {5, 1}, {1, 7}, {16, 11}, {85, 85}, {128, 128}, {most, 2}} {
		b := noisy(random, size[0], size[1])
		for k := 1; k*max(size[0], size[1]) <= most; k++ {
			large, e := scale.Enlarge(b, k)
			gives(t, large, e, enlarged(b, k), "Enlarge", size, k)
			got, e := scale.Shrink(large, k)
			gives(t, got, e, b, "Shrink", size, k)
			got, e = scale.Nearest(large, size[0], size[1])
			gives(t, got, e, b, "Nearest", size, k)
			got, e = scale.Box(b, size[0]*k, size[1]*k)
			gives(t, got, e, large, "Box", size, k)
		}
	}
}

// P10.1 and P10.2: buffers of one color keep it, at all sizes.
func TestOneColor(t *testing.T) {
	for i, p := range []api.Pixel{{}, px(0, 0, 0, 1), px(255, 255, 255, 255), px(1, 2, 3, 4), px(254, 253, 127, 254)} {
		for _, from := range [][2]int{{1, 1}, {3, 2}, {most, most - i}, {97, 128}} {
			for _, to := range [][2]int{{1, 1}, {2, 3}, {7, most}, {251, 5}} {
				b := plain(from[0], from[1], p)
				got, e := scale.Nearest(b, to[0], to[1])
				gives(t, got, e, plain(to[0], to[1], p), "Nearest", from, to)
				got, e = scale.Box(b, to[0], to[1])
				gives(t, got, e, plain(to[0], to[1], p), "Box", from, to)
			}
		}
	}
}

// P10.1 and P10.2: all results are valid, and opaque buffers stay opaque.
func TestValidResults(t *testing.T) {
	random := numbers()
	for range 300 {
		b := noisy(random, 1+random.IntN(20), 1+random.IntN(20))
		w, h := 1+random.IntN(20), 1+random.IntN(20)
		solid := api.Buffer{Width: b.Width, Height: b.Height, Pixels: slices.Clone(b.Pixels)}
		for i := range solid.Pixels {
			solid.Pixels[i].A = 255
		}
		for _, scaled := range []func(api.Buffer, int, int) (api.Buffer, api.Errno){scale.Nearest, scale.Box} {
			got, e := scaled(b, w, h)
			if e != api.OK || !buffer.Valid(got) {
				t.Fatalf("%v to %d by %d: %v, %d", brief(b), w, h, brief(got), e)
			}
			got, e = scaled(solid, w, h)
			if e != api.OK || !buffer.Valid(got) || slices.ContainsFunc(got.Pixels, func(p api.Pixel) bool { return !pixel.Opaque(p) }) {
				t.Fatalf("%v to %d by %d: %v, %d", brief(solid), w, h, brief(got), e)
			}
		}
	}
}

// checkMap checks the result of MapRect.
func checkMap(t *testing.T, r api.Rect, from, to [2]int, want api.Rect) {
	t.Helper()
	if got := scale.MapRect(r, from[0], from[1], to[0], to[1]); got != want {
		t.Fatalf("%v from %v to %v: got %v, want %v", r, from, to, got, want)
	}
}

// P10.5: results by hand: the chapter's example, fractions that are rounded outwards on all four sides, negative coordinates, and those beyond the limits.
func TestMapRect(t *testing.T) {
	for _, x := range []struct {
		r        api.Rect
		from, to [2]int
		want     api.Rect
	}{
		{frame(1, 0, 2, 1), [2]int{4, 4}, [2]int{2, 8}, frame(0, 0, 1, 2)},
		{frame(1, 1, 2, 2), [2]int{3, 3}, [2]int{3, 3}, frame(1, 1, 2, 2)},
		{frame(1, 2, 3, 5), [2]int{1, 1}, [2]int{3, 2}, frame(3, 4, 9, 10)},
		{frame(3, 4, 5, 5), [2]int{4, 3}, [2]int{1, 1}, frame(0, 1, 2, 2)},
		{frame(1, 1, 2, 2), [2]int{3, 3}, [2]int{2, 4}, frame(0, 1, 2, 3)},
		{frame(-1, -2, 1, 2), [2]int{2, 3}, [2]int{1, 1}, frame(-1, -1, 1, 1)},
		{frame(-7, -8, -5, -3), [2]int{3, 4}, [2]int{2, 3}, frame(-5, -6, -3, -2)},
		{frame(-6, -4, -3, -1), [2]int{3, 4}, [2]int{1, 1}, frame(-2, -1, -1, 0)},
		{frame(-4, 2, -3, 3), [2]int{2, 2}, [2]int{1, 1}, frame(-2, 1, -1, 2)},
		{frame(0, 0, 1, 1), [2]int{most, most}, [2]int{1, 1}, frame(0, 0, 1, 1)},
		{frame(-1, -1, 0, 0), [2]int{most, most}, [2]int{1, 1}, frame(-1, -1, 0, 0)},
		{frame(0, 0, 256, 257), [2]int{most, most}, [2]int{1, 1}, frame(0, 0, 1, 2)},
		{frame(-limit, -limit, limit, limit), [2]int{7, 9}, [2]int{7, 9}, frame(-limit, -limit, limit, limit)},
		{frame(-limit, -limit, limit, limit), [2]int{1, most}, [2]int{most, 1}, frame(-limit, -64, limit, 64)},
		{frame(-limit, -limit, limit, limit), [2]int{3, 2}, [2]int{2, 3}, frame(-10923, -limit, 10923, limit)},
		{frame(63, 64, 64, 65), [2]int{1, 1}, [2]int{most, 2}, frame(16128, 128, limit, 130)},
		{frame(63, 0, 65, 1), [2]int{1, 1}, [2]int{most, 1}, frame(16128, 0, limit, 1)},
		{frame(64, 0, 65, 1), [2]int{1, 1}, [2]int{most, 1}, api.Rect{}},
		{frame(0, 64, 1, 65), [2]int{1, 1}, [2]int{1, most}, api.Rect{}},
		{frame(-65, -64, -63, -63), [2]int{1, 1}, [2]int{most, most}, frame(-limit, -limit, -16128, -16128)},
		{frame(-65, 0, -64, 1), [2]int{1, 1}, [2]int{most, 1}, api.Rect{}},
		{frame(0, -65, 1, -64), [2]int{1, 1}, [2]int{1, most}, api.Rect{}},
		{frame(limit-1, limit-1, limit, limit), [2]int{1, 1}, [2]int{1, 1}, frame(limit-1, limit-1, limit, limit)},
		{frame(limit-1, 0, limit, 1), [2]int{255, 1}, [2]int{256, 1}, api.Rect{}},
		{frame(limit-1, 0, limit, 1), [2]int{256, 1}, [2]int{255, 1}, frame(16319, 0, 16320, 1)},
		{frame(-limit, -limit, 1-limit, 1-limit), [2]int{2, 3}, [2]int{1, 2}, frame(-8192, -10923, -8191, -10922)},
	} {
		checkMap(t, x.r, x.from, x.to, x.want)
	}
}

// down returns n * to / from rounded down and limited to valid coordinates.
func down(n, from, to int) int {
	product := new(big.Int).Mul(big.NewInt(int64(n)), big.NewInt(int64(to)))
	quotient, rest := new(big.Int).QuoRem(product, big.NewInt(int64(from)), new(big.Int))
	if rest.Sign() < 0 {
		quotient.Sub(quotient, big.NewInt(1))
	}
	return limited(quotient)
}

// up returns n * to / from rounded up and limited to valid coordinates.
func up(n, from, to int) int {
	product := new(big.Int).Mul(big.NewInt(int64(n)), big.NewInt(int64(to)))
	quotient, rest := new(big.Int).QuoRem(product, big.NewInt(int64(from)), new(big.Int))
	if rest.Sign() > 0 {
		quotient.Add(quotient, big.NewInt(1))
	}
	return limited(quotient)
}

// limited returns the valid coordinate that is nearest to n.
func limited(n *big.Int) int {
	if n.CmpAbs(big.NewInt(limit)) > 0 {
		return limit * n.Sign()
	}
	return int(n.Int64())
}

// coord reports whether n is a valid coordinate.
func coord(n int) bool {
	return -limit <= n && n <= limit
}

// mapped is the definition of MapRect for valid sizes.
func mapped(r api.Rect, from, to [2]int) api.Rect {
	if !coord(r.X0) || !coord(r.Y0) || !coord(r.X1) || !coord(r.Y1) || r.X0 >= r.X1 || r.Y0 >= r.Y1 {
		return api.Rect{}
	}
	out := frame(down(r.X0, from[0], to[0]), down(r.Y0, from[1], to[1]), up(r.X1, from[0], to[0]), up(r.Y1, from[1], to[1]))
	if out.X0 >= out.X1 || out.Y0 >= out.Y1 {
		return api.Rect{}
	}
	return out
}

// P10.5: rectangles of all signs and at the limits, between images of many sizes.
func TestMapRectGrid(t *testing.T) {
	random := numbers()
	lines := []int{-limit - 1, -limit, 1 - limit, -8000, -most, -65, -64, -5, -1, 0, 1, 2, 63, 64, 255, most, 5461, limit - 1, limit, limit + 1}
	pick := func(l []int) int { return l[random.IntN(len(l))] }
	for range 200_000 {
		r := frame(pick(lines), pick(lines), pick(lines), pick(lines))
		from, to := [2]int{pick(sides), pick(sides)}, [2]int{pick(sides), pick(sides)}
		checkMap(t, r, from, to, mapped(r, from, to))
	}
}

// P10.5: the result has exactly the pixels of the scaled image that cover a part of r, as Box covers it.
func TestMapRectCovers(t *testing.T) {
	for i := range 8 * 8 {
		from, to := 1+i%8, 1+i/8
		for first := range from {
			for end := first + 1; end <= from; end++ {
				low, high := to, 0
				for n, l := range weights(from, to) {
					if slices.ContainsFunc(l, func(w weight) bool { return first <= w.at && w.at < end }) {
						low, high = min(low, n), max(high, n+1)
					}
				}
				checkMap(t, frame(first, 0, end, 1), [2]int{from, 1}, [2]int{to, 1}, frame(low, 0, high, 1))
				checkMap(t, frame(0, first, 1, end), [2]int{1, from}, [2]int{1, to}, frame(0, low, 1, high))
			}
		}
	}
}

// P10.5: pixels that Box computes from changed pixels lie within the rectangle to which that of the changed pixels is mapped.
func TestMapRectOfChanges(t *testing.T) {
	random := numbers()
	for range 500 {
		b := noisy(random, 1+random.IntN(12), 1+random.IntN(12))
		to := [2]int{1 + random.IntN(12), 1 + random.IntN(12)}
		before, _ := scale.Box(b, to[0], to[1])
		x, y := random.IntN(b.Width), random.IntN(b.Height)
		b.Pixels[y*b.Width+x] = px(255, 0, 128, 255)
		after, _ := scale.Box(b, to[0], to[1])
		r := scale.MapRect(frame(x, y, x+1, y+1), b.Width, b.Height, to[0], to[1])
		for i := range after.Pixels {
			inside := r.X0 <= i%to[0] && i%to[0] < r.X1 && r.Y0 <= i/to[0] && i/to[0] < r.Y1
			if !inside && before.Pixels[i] != after.Pixels[i] {
				t.Fatalf("%v to %v: pixel %d changed outside %v", brief(b), to, i, r)
			}
		}
	}
}

// P10.5: scaling to the same size changes no rectangle, and scaling up and down again restores it unless a coordinate was replaced.
func TestMapRectInverse(t *testing.T) {
	random := numbers()
	for range 20_000 {
		x, y := random.IntN(2*limit)-limit, random.IntN(2*limit)-limit
		r := frame(x, y, x+1+random.IntN(limit-x), y+1+random.IntN(limit-y))
		w, h := 1+random.IntN(most), 1+random.IntN(most)
		checkMap(t, r, [2]int{w, h}, [2]int{w, h}, r)
		k := 1 + random.IntN(most)
		small := frame(x/k, y/k, x/k+1, y/k+1)
		large := frame(x/k*k, y/k*k, x/k*k+k, y/k*k+k)
		if large.X1 > limit || large.Y1 > limit {
			continue
		}
		checkMap(t, small, [2]int{1, 1}, [2]int{k, k}, large)
		checkMap(t, large, [2]int{k, k}, [2]int{1, 1}, small)
	}
}

// P10.5: rectangles that are empty or not valid, sizes that are not valid, and both at once give the zero Rect.
func TestMapRectNothing(t *testing.T) {
	var nothing []api.Rect
	for _, n := range extremes {
		if !coord(n) {
			nothing = append(nothing, frame(n, 0, 2, 2), frame(0, n, 2, 2), frame(0, 0, n, 2), frame(0, 0, 2, n), frame(n, n, -n, -n), frame(-n, -n, n, n), frame(n, 0, n, 2))
			continue
		}
		nothing = append(nothing, frame(n, 0, n, 2), frame(0, n, 2, n), frame(n, 0, -limit, 2), frame(0, limit, 2, n), frame(n, n, n, n))
	}
	good := frame(-1, 0, 2, 3)
	for _, r := range nothing {
		for _, n := range sides {
			checkMap(t, r, [2]int{1, 1}, [2]int{1, 1}, api.Rect{})
			checkMap(t, r, [2]int{n, 3}, [2]int{3, n}, api.Rect{})
			checkMap(t, r, [2]int{1, n}, [2]int{n, most}, api.Rect{})
		}
	}
	for _, n := range noSides() {
		for _, r := range append(nothing, good) {
			checkMap(t, r, [2]int{n, 1}, [2]int{1, 1}, api.Rect{})
			checkMap(t, r, [2]int{1, n}, [2]int{1, 1}, api.Rect{})
			checkMap(t, r, [2]int{1, 1}, [2]int{n, 1}, api.Rect{})
			checkMap(t, r, [2]int{1, 1}, [2]int{1, n}, api.Rect{})
			checkMap(t, r, [2]int{n, n}, [2]int{n, n}, api.Rect{})
			checkMap(t, r, [2]int{n, 1}, [2]int{n, 1}, api.Rect{})
		}
	}
}

// marker is a pixel that stands behind the pixels of a buffer and must stay there.
var marker = px(7, 7, 7, 7)

// roomy returns the buffer in new memory with marked spare capacity.
func roomy(b api.Buffer) api.Buffer {
	n := len(b.Pixels)
	b.Pixels = append(slices.Clone(b.Pixels), slices.Repeat([]api.Pixel{marker}, n+3)...)[:n]
	return b
}

// everything returns a copy of all that can be reached through the pixels of a buffer.
func everything(b api.Buffer) []api.Pixel {
	return slices.Clone(b.Pixels[:cap(b.Pixels)])
}

// spoil overwrites everything that can be reached through the pixels of a buffer.
func spoil(b api.Buffer) {
	for i := range b.Pixels[:cap(b.Pixels)] {
		b.Pixels[:cap(b.Pixels)][i] = px(0, 0, 0, 66)
	}
}

// calls returns calls of all functions that return a buffer, of the same size among them.
func calls(random *rand.Rand) map[string]func(b api.Buffer) (api.Buffer, api.Errno) {
	w, h := 1+random.IntN(9), 1+random.IntN(9)
	return map[string]func(b api.Buffer) (api.Buffer, api.Errno){
		"Nearest":      func(b api.Buffer) (api.Buffer, api.Errno) { return scale.Nearest(b, w, h) },
		"Nearest same": func(b api.Buffer) (api.Buffer, api.Errno) { return scale.Nearest(b, b.Width, b.Height) },
		"Box":          func(b api.Buffer) (api.Buffer, api.Errno) { return scale.Box(b, w, h) },
		"Box same":     func(b api.Buffer) (api.Buffer, api.Errno) { return scale.Box(b, b.Width, b.Height) },
		"Shrink":       func(b api.Buffer) (api.Buffer, api.Errno) { return scale.Shrink(b, 2) },
		"Shrink same":  func(b api.Buffer) (api.Buffer, api.Errno) { return scale.Shrink(b, 1) },
		"Enlarge":      func(b api.Buffer) (api.Buffer, api.Errno) { return scale.Enlarge(b, 3) },
		"Enlarge same": func(b api.Buffer) (api.Buffer, api.Errno) { return scale.Enlarge(b, 1) },
	}
}

// R3: no function modifies or keeps its argument, and results share no memory with it or with each other.
func TestMemory(t *testing.T) {
	random := numbers()
	for name, call := range calls(random) {
		for _, size := range [][2]int{{2, 2}, {6, 4}} {
			b := roomy(noisy(random, size[0], size[1]))
			before := everything(b)
			first, e := call(b)
			if e != api.OK {
				t.Fatalf("%s: %d", name, e)
			}
			want := api.Buffer{Width: first.Width, Height: first.Height, Pixels: slices.Clone(first.Pixels)}
			spoil(first)
			if !slices.Equal(everything(b), before) {
				t.Errorf("%s: the argument changed", name)
			}
			second, e := call(b)
			third, _ := call(b)
			spoil(b)
			spoil(third)
			gives(t, second, e, want, name)
		}
	}
}

// R2 and R3: a call that fails does not change its argument either.
func TestMemoryErrors(t *testing.T) {
	random := numbers()
	for _, b := range append(bad(), noisy(random, 3, 5), noisy(random, most, 1)) {
		b = roomy(b)
		before := everything(b)
		scale.Nearest(b, 2, 2)
		scale.Nearest(b, 0, most+1)
		scale.Box(b, 2, 2)
		scale.Box(b, -1, 1)
		scale.Shrink(b, 2)
		scale.Shrink(b, 0)
		scale.Enlarge(b, 2)
		scale.Enlarge(b, most+1)
		if !slices.Equal(everything(b), before) {
			t.Errorf("%v changed", brief(b))
		}
	}
}

// P1: every function returns for numbers of the full range, and with an error only the zero Buffer.
func TestReturns(t *testing.T) {
	for _, b := range append(bad(), alphas(2, 1, 2, 3, 4)) {
		for _, n := range extremes {
			for _, m := range []int{math.MinInt, -1, 0, 1, 5, most + 1, math.MaxInt} {
				for _, call := range []func(api.Buffer, int, int) (api.Buffer, api.Errno){scale.Nearest, scale.Box} {
					if got, e := call(b, n, m); e != api.OK && !same(got, api.Buffer{}) {
						t.Errorf("%v to %d by %d: %v, %d", brief(b), n, m, brief(got), e)
					}
				}
			}
			scale.Shrink(b, n)
			scale.Enlarge(b, n)
		}
	}
	for _, n := range extremes {
		for _, m := range extremes {
			scale.MapRect(frame(n, m, m, n), n, m, m, n)
			scale.MapRect(frame(n, n, m, m), 1, most, most, 1)
			scale.MapRect(frame(0, 0, 1, 1), n, m, n, m)
		}
	}
}

// R6: results depend only on the arguments, not on earlier calls.
func TestNoState(t *testing.T) {
	random := numbers()
	for name, call := range calls(random) {
		b := noisy(random, 6, 4)
		first, e := call(b)
		gives(t, first, e, first, name)
		for _, other := range append(bad(), noisy(random, most, most), alphas(1, 1)) {
			scale.Nearest(other, 9, 5)
			scale.Box(other, 5, 9)
			got, e := call(b)
			gives(t, got, e, first, name)
		}
	}
}

// FuzzScale compares all functions with their definitions, for a buffer that is made from a seed.
func FuzzScale(f *testing.F) {
	f.Add(uint64(1), 4, 1, 3, 1, 2, -7, 3)
	f.Add(uint64(2), most, most, 255, 1, 1, limit, -limit)
	f.Add(uint64(3), 6, 9, 4, 6, 3, 0, 1)
	f.Add(uint64(4), 0, most+1, math.MinInt, math.MaxInt, math.MaxInt, math.MinInt, math.MaxInt)
	f.Fuzz(func(t *testing.T, seed uint64, w0, h0, w, h, k, x, y int) {
		r := frame(x, y, x+w0, y+h0)
		if w0 < 1 || w0 > most || h0 < 1 || h0 > most || w < 1 || w > most || h < 1 || h > most {
			checkMap(t, r, [2]int{w0, h0}, [2]int{w, h}, api.Rect{})
			return
		}
		checkMap(t, r, [2]int{w0, h0}, [2]int{w, h}, mapped(r, [2]int{w0, h0}, [2]int{w, h}))
		b := noisy(rand.New(rand.NewPCG(seed, 0)), w0, h0)
		checkNearest(t, b, w, h)
		checkBox(t, b, w, h)
		small, e := scale.Shrink(b, k)
		if k < 1 || w0%k != 0 || h0%k != 0 {
			refuses(t, small, e, api.ErrArgument, "Shrink", k)
		} else {
			gives(t, small, e, blocks(b, k), "Shrink", k)
		}
		large, e := scale.Enlarge(b, k)
		switch {
		case k < 1:
			refuses(t, large, e, api.ErrArgument, "Enlarge", k)
		case k > most || w0*k > most || h0*k > most:
			refuses(t, large, e, api.ErrLimit, "Enlarge", k)
		default:
			gives(t, large, e, enlarged(b, k), "Enlarge", k)
		}
	})
}
