package buffer_test

import (
	"iter"
	"math"
	"math/rand/v2"
	"slices"
	"testing"

	"compositor/api"
	"compositor/buffer"
	"compositor/pixel"
)

const most = api.MaxSize

// extremes are numbers at and beyond every limit, and such that sums and products of them overflow, with a few between them.
var extremes = []int{math.MinInt, math.MinInt + 1, math.MinInt + most, -1 << 62, -1 << 32, math.MinInt32, -1 << 16, -api.MaxCoord - 1, -api.MaxCoord,
	-most - 1, -most, -most + 1, -4, -2, -1, 0, 1, 2, 3, 4, 7, most - 1, most, most + 1, 2 * most, api.MaxCoord - 1, api.MaxCoord, api.MaxCoord + 1, 1 << 16,
	math.MaxInt32, 1 << 32, 1 << 62, math.MaxInt - most, math.MaxInt - 3, math.MaxInt - 1, math.MaxInt}

// noSides returns numbers that are no width or height of a valid buffer.
func noSides() []int {
	return slices.DeleteFunc(slices.Clone(extremes), func(n int) bool { return n >= 1 && n <= most })
}

// px is short for a pixel.
func px(r, g, b, a uint8) api.Pixel {
	return api.Pixel{R: r, G: g, B: b, A: a}
}

// box is short for a rectangle.
func box(x0, y0, x1, y1 int) api.Rect {
	return api.Rect{X0: x0, Y0: y0, X1: x1, Y1: y1}
}

// bytesOf returns n bytes 1, 2, 3 and so on.
func bytesOf(n int) []byte {
	out := make([]byte, n)
	for i := range out {
		out[i] = byte(i + 1)
	}
	return out
}

// numbers returns numbers that are the same in each run of the tests.
func numbers() *rand.Rand {
	return rand.New(rand.NewPCG(9, 9))
}

// A picture is a buffer with one string for each row and one letter for each pixel: capital letters are opaque, small ones translucent, and a dot is the zero pixel.
type picture []string

// ink returns the pixel of a letter.
func ink(c byte) api.Pixel {
	switch {
	case c >= 'A' && c <= 'Z':
		return px(c, 255-c, 2*c, 255)
	case c >= 'a' && c <= 'z':
		return px(c-'a', 5, c/2, c)
	}
	return api.Pixel{}
}

// paint returns the buffer of a picture.
func paint(rows ...string) api.Buffer {
	out := api.Buffer{Width: len(rows[0]), Height: len(rows)}
	for _, row := range rows {
		for _, c := range []byte(row) {
			out.Pixels = append(out.Pixels, ink(c))
		}
	}
	return out
}

// scatter returns a picture of random letters of a text.
func scatter(random *rand.Rand, w, h int, text string) picture {
	out := make(picture, h)
	for y := range out {
		for range w {
			out[y] += string(text[random.IntN(len(text))])
		}
	}
	return out
}

// pasted returns the picture with the letters of s at (x, y), for an x and y that are no extremes. It moves each letter of s.
func (a picture) pasted(s picture, x, y int) picture {
	rows := make([][]byte, len(a))
	for i := range rows {
		rows[i] = []byte(a[i])
	}
	for i, row := range s {
		for j, c := range []byte(row) {
			if y+i >= 0 && y+i < len(rows) && x+j >= 0 && x+j < len(a[0]) {
				rows[y+i][x+j] = c
			}
		}
	}
	out := make(picture, len(a))
	for i := range out {
		out[i] = string(rows[i])
	}
	return out
}

// blended returns the buffer of the picture with the letters of s blended over it at (x, y), for an x and y that are no extremes.
func (a picture) blended(s picture, x, y int) api.Buffer {
	out := paint(a...)
	for i, row := range s {
		for j, c := range []byte(row) {
			if y+i >= 0 && y+i < len(a) && x+j >= 0 && x+j < len(a[0]) {
				out.Pixels[(y+i)*len(a[0])+x+j] = pixel.Over(ink(c), ink(a[y+i][x+j]))
			}
		}
	}
	return out
}

// plain returns a valid buffer with the same translucent pixel everywhere.
func plain(w, h int) api.Buffer {
	return api.Buffer{Width: w, Height: h, Pixels: slices.Repeat([]api.Pixel{px(1, 2, 3, 4)}, w*h)}
}

// striped returns a valid buffer of opaque and other pixels: in each row, the first one is opaque, the next one not, and so on.
func striped(w, h int) api.Buffer {
	out := plain(w, h)
	for i := range out.Pixels {
		if i%w%2 == 0 {
			out.Pixels[i] = px(9, 8, 7, 255)
		}
	}
	return out
}

// noisy returns a valid buffer of random pixels.
func noisy(random *rand.Rand, w, h int) api.Buffer {
	out := plain(w, h)
	for i := range out.Pixels {
		out.Pixels[i] = pixel.Clamp(px(uint8(random.Uint32()), uint8(random.Uint32()), uint8(random.Uint32()), uint8(random.Uint32())))
	}
	return out
}

// good returns valid buffers, of the smallest and greatest sizes among them.
func good() []api.Buffer {
	return []api.Buffer{plain(1, 1), plain(1, most), plain(most, 1), plain(most, most), striped(3, 2), striped(7, 5), paint("A"), paint("."), paint("aB.", "Cd.", "..E")}
}

// bad returns buffers that are not valid: with sizes out of range, as many pixels as their product says among them; with too few or too many pixels; with pixels that are not valid.
func bad() []api.Buffer {
	out := []api.Buffer{{}, {Pixels: plain(1, 1).Pixels}, {Width: 2, Height: 2}}
	for _, size := range [][2]int{{0, 5}, {5, 0}, {-2, -3}, {most + 1, 1}, {1, most + 1}, {most + 1, most + 1}, {-1, 1}, {1, -1}, {2 * most, 2}} {
		out = append(out, api.Buffer{Width: size[0], Height: size[1], Pixels: plain(1, max(0, size[0]*size[1])).Pixels})
	}
	for _, w := range noSides() {
		out = append(out, api.Buffer{Width: w, Height: w}, api.Buffer{Width: w, Height: 1}, api.Buffer{Width: 4, Height: w, Pixels: plain(2, 2).Pixels})
	}
	for _, n := range []int{1, 5, 7, 12, 36, most} {
		out = append(out, api.Buffer{Width: 3, Height: 2, Pixels: plain(n, 1).Pixels})
	}
	for _, p := range []api.Pixel{px(5, 4, 4, 4), px(4, 5, 4, 4), px(4, 4, 5, 4), px(255, 255, 255, 254), px(0, 0, 1, 0)} {
		for _, i := range []int{0, 2, 3, 5} {
			b := striped(3, 2)
			b.Pixels[i] = p
			out = append(out, b)
		}
	}
	large := plain(most, most)
	large.Pixels[most*most-1] = px(1, 0, 0, 0)
	one := api.Buffer{Width: 1, Height: 1, Pixels: []api.Pixel{px(2, 1, 1, 1)}}
	return append(out, large, one)
}

// same is the definition of Equal.
func same(a, b api.Buffer) bool {
	if a.Width != b.Width || a.Height != b.Height || len(a.Pixels) != len(b.Pixels) {
		return false
	}
	for i := range a.Pixels {
		if a.Pixels[i] != b.Pixels[i] {
			return false
		}
	}
	return true
}

// brief returns what to print of a buffer.
func brief(b api.Buffer) []any {
	return []any{b.Width, b.Height, len(b.Pixels), b.Pixels[:min(len(b.Pixels), 12)]}
}

// gives checks a buffer that was returned with an error code, which must be OK.
func gives(t *testing.T, got api.Buffer, e api.Errno, want api.Buffer, what ...any) {
	t.Helper()
	if e != api.OK || !same(got, want) {
		t.Fatalf("%v: got %v and %d, want %v", what, brief(got), e, brief(want))
	}
}

// refuses checks an error code and that the buffer returned with it is zero.
func refuses(t *testing.T, got api.Buffer, e api.Errno, want api.Errno, what ...any) {
	t.Helper()
	if e != want || !same(got, api.Buffer{}) {
		t.Fatalf("%v: got %v and %d, want the error %d", what, brief(got), e, want)
	}
}

// lists checks runs that were returned with an error code, and that there are none together with an error.
func lists(t *testing.T, got []api.Rect, e api.Errno, want []api.Rect, wantError api.Errno, what ...any) {
	t.Helper()
	if e != wantError || !slices.Equal(got, want) {
		t.Fatalf("%v: got %v and %d, want %v and %d", what, got, e, want, wantError)
	}
}

// P9.1: Valid for valid buffers and for those that are not.
func TestValid(t *testing.T) {
	for _, b := range good() {
		if !buffer.Valid(b) {
			t.Errorf("%v is valid", brief(b))
		}
	}
	for _, b := range bad() {
		if buffer.Valid(b) {
			t.Errorf("%v is not valid", brief(b))
		}
	}
}

// P9.1: all sizes of one row or column, with as many pixels, one fewer and one more.
func TestValidSizes(t *testing.T) {
	pixels := plain(1, most+2).Pixels
	for n := range most + 2 {
		for _, k := range []int{n - 1, n, n + 1} {
			want := n >= 1 && n <= most && k == n
			for _, b := range []api.Buffer{{Width: n, Height: 1, Pixels: pixels[:max(k, 0)]}, {Width: 1, Height: n, Pixels: pixels[:max(k, 0)]}} {
				if buffer.Valid(b) != want {
					t.Errorf("%d by %d pixels, %d of them: %v", b.Width, b.Height, k, !want)
				}
			}
		}
	}
}

// P9.1: one pixel with any components makes a buffer invalid exactly if it is not valid.
func TestValidPixels(t *testing.T) {
	levels := []uint8{0, 1, 2, 127, 128, 254, 255}
	for i := range len(levels) * len(levels) * len(levels) * len(levels) {
		p := px(levels[i%7], levels[i/7%7], levels[i/49%7], levels[i/343])
		want := p.R <= p.A && p.G <= p.A && p.B <= p.A
		for at := range 4 {
			b := striped(2, 2)
			b.Pixels[at] = p
			if buffer.Valid(b) != want {
				t.Errorf("%v at %d: %v", p, at, !want)
			}
		}
	}
}

// P9.1: buffers of one pixel, of all sizes in one row or column, and of the greatest size.
func TestNew(t *testing.T) {
	for _, p := range []api.Pixel{{}, px(0, 0, 0, 255), px(255, 255, 255, 255), px(1, 2, 3, 4), px(4, 4, 4, 4), px(0, 0, 0, 1)} {
		for _, size := range [][2]int{{1, 1}, {2, 1}, {1, 2}, {3, 2}, {2, 3}, {most, 1}, {1, most}, {most - 1, most}, {most, most}} {
			w, h := size[0], size[1]
			got, e := buffer.New(w, h, p)
			gives(t, got, e, api.Buffer{Width: w, Height: h, Pixels: slices.Repeat([]api.Pixel{p}, w*h)}, "New", w, h, p)
		}
	}
	for n := 1; n <= most; n++ {
		got, e := buffer.New(n, 1, px(1, 2, 3, 4))
		gives(t, got, e, plain(n, 1), "New", n, 1)
		got, e = buffer.New(1, n, px(1, 2, 3, 4))
		gives(t, got, e, plain(1, n), "New", 1, n)
	}
}

// P9.1: sizes out of range, pixels that are not valid, and both at once.
func TestNewErrors(t *testing.T) {
	invalid := []api.Pixel{px(1, 0, 0, 0), px(0, 5, 0, 4), px(0, 0, 255, 254), px(255, 255, 255, 0)}
	for _, n := range noSides() {
		for _, size := range [][2]int{{n, 1}, {1, n}, {n, n}, {n, most}, {most, n}, {-n, n}} {
			for _, p := range append(invalid, api.Pixel{}, px(1, 2, 3, 4)) {
				got, e := buffer.New(size[0], size[1], p)
				refuses(t, got, e, api.ErrRange, "New", size, p)
			}
		}
	}
	for _, p := range invalid {
		for _, size := range [][2]int{{1, 1}, {most, most}, {1, 7}} {
			got, e := buffer.New(size[0], size[1], p)
			refuses(t, got, e, api.ErrBuffer, "New", size, p)
		}
	}
}

// checkAt checks the pixel at a position.
func checkAt(t *testing.T, b api.Buffer, x, y int, want api.Pixel) {
	t.Helper()
	if got := buffer.At(b, x, y); got != want {
		t.Errorf("%v at (%d, %d): got %v, want %v", brief(b), x, y, got, want)
	}
}

// P9.1: the pixels at all positions, inside the frame and outside it.
func TestAt(t *testing.T) {
	for _, a := range []picture{{"A"}, {"AbC"}, {"A", "b", "C"}, {"AB", "cD", "eF"}, {"ABCD", "efgh"}} {
		b := paint(a...)
		for y := -3; y < len(a)+3; y++ {
			for x := -3; x < len(a[0])+3; x++ {
				want := api.Pixel{}
				if y >= 0 && y < len(a) && x >= 0 && x < len(a[0]) {
					want = ink(a[y][x])
				}
				checkAt(t, b, x, y, want)
			}
		}
		for _, n := range extremes {
			if n < 0 || n > 4 {
				checkAt(t, b, n, 0, api.Pixel{})
				checkAt(t, b, 0, n, api.Pixel{})
				checkAt(t, b, n, n, api.Pixel{})
				checkAt(t, b, -n, n, api.Pixel{})
			}
		}
	}
	large := noisy(numbers(), most, most)
	for y := range most {
		for x := range most {
			checkAt(t, large, x, y, large.Pixels[most*y+x])
		}
	}
	checkAt(t, large, most, 0, api.Pixel{})
	checkAt(t, large, 0, most, api.Pixel{})
}

// P9.1: buffers with too few or too many pixels have those that there are; pixels that are not valid are returned as they are.
func TestAtNotValid(t *testing.T) {
	pixels := paint("ABCDEFGHI").Pixels
	for n := range 10 {
		b := api.Buffer{Width: 3, Height: 2, Pixels: pixels[:n]}
		for i := range 6 {
			want := api.Pixel{}
			if i < n {
				want = pixels[i]
			}
			checkAt(t, b, i%3, i/3, want)
		}
		checkAt(t, b, 0, 2, api.Pixel{})
		checkAt(t, b, 3, 0, api.Pixel{})
	}
	odd := api.Buffer{Width: 2, Height: 1, Pixels: []api.Pixel{px(9, 8, 7, 6), px(255, 0, 1, 0)}}
	checkAt(t, odd, 0, 0, px(9, 8, 7, 6))
	checkAt(t, odd, 1, 0, px(255, 0, 1, 0))
}

// P9.1: a buffer whose width or height is out of range has no pixels at any position.
func TestAtNoSize(t *testing.T) {
	pixels := paint("ABCDEFGHI").Pixels
	for _, n := range noSides() {
		for _, b := range []api.Buffer{{Width: n, Height: 1, Pixels: pixels}, {Width: 1, Height: n, Pixels: pixels}, {Width: n, Height: n, Pixels: pixels}} {
			for _, x := range extremes {
				checkAt(t, b, x, 0, api.Pixel{})
				checkAt(t, b, 0, x, api.Pixel{})
				checkAt(t, b, x, x, api.Pixel{})
			}
		}
	}
}

// checkEqual checks Equal in both orders.
func checkEqual(t *testing.T, a, b api.Buffer, want bool) {
	t.Helper()
	if buffer.Equal(a, b) != want || buffer.Equal(b, a) != want {
		t.Errorf("%v and %v: want %v", brief(a), brief(b), want)
	}
}

// P9.1: buffers that differ in one thing only, and those that do not, valid or not.
func TestEqual(t *testing.T) {
	pixels := paint("ABCDEF").Pixels
	for _, size := range [][2]int{{3, 2}, {0, 0}, {-1, -6}, {math.MaxInt, math.MinInt}, {most + 1, 1}} {
		w, h := size[0], size[1]
		b := api.Buffer{Width: w, Height: h, Pixels: pixels}
		checkEqual(t, b, api.Buffer{Width: w, Height: h, Pixels: slices.Clone(pixels)}, true)
		checkEqual(t, b, api.Buffer{Width: w - 1, Height: h, Pixels: pixels}, false)
		checkEqual(t, b, api.Buffer{Width: w, Height: h + 1, Pixels: pixels}, false)
		checkEqual(t, b, api.Buffer{Width: h, Height: w, Pixels: pixels}, w == h)
		checkEqual(t, b, api.Buffer{Width: w, Height: h, Pixels: pixels[:5]}, false)
		checkEqual(t, b, api.Buffer{Width: w, Height: h, Pixels: append(slices.Clone(pixels), api.Pixel{})}, false)
		checkEqual(t, b, api.Buffer{Width: w, Height: h}, false)
		for i := range pixels {
			for _, change := range []func(p *api.Pixel){func(p *api.Pixel) { p.R++ }, func(p *api.Pixel) { p.G++ }, func(p *api.Pixel) { p.B++ }, func(p *api.Pixel) { p.A++ }} {
				other := slices.Clone(pixels)
				change(&other[i])
				checkEqual(t, b, api.Buffer{Width: w, Height: h, Pixels: other}, false)
			}
		}
		checkEqual(t, api.Buffer{Width: w, Height: h}, api.Buffer{Width: w, Height: h, Pixels: []api.Pixel{}}, true)
	}
	all := append(good(), bad()...)
	for i, a := range all {
		for _, b := range all[i:] {
			checkEqual(t, a, b, same(a, b))
		}
	}
}

// P9.2: buffers from bytes by hand, the example of the chapter among them: the order of the bytes, the ignored alpha, clamped pixels, strides that are longer than a row, and bytes that are left over.
func TestDecode(t *testing.T) {
	for _, x := range []struct {
		format, w, h, stride int
		data                 []byte
		want                 []api.Pixel
	}{
		{api.XRGB8888, 1, 1, 4, []byte{1, 2, 3, 0}, []api.Pixel{px(3, 2, 1, 255)}},
		{api.ARGB8888, 1, 1, 4, []byte{1, 2, 3, 4}, []api.Pixel{px(3, 2, 1, 4)}},
		{api.ARGB8888, 1, 1, 4, []byte{1, 2, 3, 0}, []api.Pixel{{}}},
		{api.ARGB8888, 1, 1, 4, []byte{9, 5, 3, 5}, []api.Pixel{px(3, 5, 5, 5)}},
		{api.ARGB8888, 1, 1, 4, []byte{1, 9, 9, 8}, []api.Pixel{px(8, 8, 1, 8)}},
		{api.XRGB8888, 1, 1, 4, []byte{255, 9, 0, 7}, []api.Pixel{px(0, 9, 255, 255)}},
		{api.ARGB8888, 2, 1, 8, []byte{1, 2, 3, 4, 5, 6, 7, 8}, []api.Pixel{px(3, 2, 1, 4), px(7, 6, 5, 8)}},
		{api.ARGB8888, 1, 2, 4, []byte{1, 2, 3, 4, 5, 6, 7, 8}, []api.Pixel{px(3, 2, 1, 4), px(7, 6, 5, 8)}},
		{api.ARGB8888, 1, 2, 8, bytesOf(16), []api.Pixel{px(3, 2, 1, 4), px(11, 10, 9, 12)}},
		{api.ARGB8888, 1, 2, 12, bytesOf(100), []api.Pixel{px(3, 2, 1, 4), px(15, 14, 13, 16)}},
		{api.XRGB8888, 2, 2, 12, bytesOf(24), []api.Pixel{px(3, 2, 1, 255), px(7, 6, 5, 255), px(15, 14, 13, 255), px(19, 18, 17, 255)}},
		{api.ARGB8888, 1, 1, 4, bytesOf(5), []api.Pixel{px(3, 2, 1, 4)}},
		{api.ARGB8888, 1, 1, 1 << 12, bytesOf(1 << 12), []api.Pixel{px(3, 2, 1, 4)}},
	} {
		got, e := buffer.Decode(x.format, x.w, x.h, x.stride, x.data)
		gives(t, got, e, api.Buffer{Width: x.w, Height: x.h, Pixels: x.want}, "Decode", x.format, x.w, x.h, x.stride, len(x.data))
	}
}

// P9.2: random bytes, with all formats, sizes from the smallest to the greatest, strides, and numbers of bytes that are left over.
func TestDecodeBytes(t *testing.T) {
	random := numbers()
	for _, size := range [][2]int{{1, 1}, {1, most}, {most, 1}, {most, most}, {2, 3}, {5, 2}, {17, 9}} {
		w, h := size[0], size[1]
		for _, stride := range []int{4 * w, 4*w + 4, 8 * w, 4 * most} {
			for _, rest := range []int{0, 1, 3, 4 * w, 1000} {
				data := make([]byte, stride*h+rest)
				for i := range data {
					data[i] = byte(random.Uint32())
				}
				for _, format := range []int{api.ARGB8888, api.XRGB8888} {
					got, e := buffer.Decode(format, w, h, stride, data)
					gives(t, got, e, decoded(format, w, h, stride, data), "Decode", format, w, h, stride, rest)
					if !buffer.Valid(got) {
						t.Fatalf("%d by %d pixels: not valid", w, h)
					}
				}
			}
		}
	}
}

// decoded is the definition of Decode for arguments without errors.
func decoded(format, w, h, stride int, data []byte) api.Buffer {
	out := api.Buffer{Width: w, Height: h, Pixels: make([]api.Pixel, w*h)}
	for y := range h {
		for x := range w {
			i := y*stride + 4*x
			p := px(data[i+2], data[i+1], data[i], data[i+3])
			if format == api.XRGB8888 {
				p.A = 255
			}
			out.Pixels[y*w+x] = pixel.Clamp(p)
		}
	}
	return out
}

// P9.2: each error alone, the examples of the chapter among them, and several at once, of which the first one counts.
func TestDecodeErrors(t *testing.T) {
	for _, x := range []struct {
		format, w, h, stride, bytes int
		want                        api.Errno
	}{
		{api.XRGB8888, 1, 1, 6, 12, api.ErrBuffer},
		{api.XRGB8888, 1, 1, 4, 3, api.ErrTruncated},
		{api.ARGB8888, 1, 1, 4, 0, api.ErrTruncated},
		{0, 1, 1, 4, 4, api.ErrArgument},
		{3, 1, 1, 4, 4, api.ErrArgument},
		{-1, 1, 1, 4, 4, api.ErrArgument},
		{api.ARGB8888, 2, 1, 4, 100, api.ErrBuffer},
		{api.ARGB8888, 2, 1, 7, 100, api.ErrBuffer},
		{api.ARGB8888, 2, 1, 9, 100, api.ErrBuffer},
		{api.ARGB8888, 2, 1, 10, 100, api.ErrBuffer},
		{api.ARGB8888, 2, 1, 11, 100, api.ErrBuffer},
		{api.ARGB8888, 1, 1, 0, 100, api.ErrBuffer},
		{api.ARGB8888, 1, 1, -4, 100, api.ErrBuffer},
		{api.ARGB8888, 2, 2, 8, 15, api.ErrTruncated},
		{api.ARGB8888, 2, 2, 12, 20, api.ErrTruncated}, // the last row, too, has stride bytes
		{api.ARGB8888, 2, 2, 12, 23, api.ErrTruncated},
		{api.ARGB8888, most, most, 4 * most, 4*most*most - 1, api.ErrTruncated},
		{api.ARGB8888, most, 1, 4*most - 4, 4 * most, api.ErrBuffer},
		{9, 0, 0, 3, 0, api.ErrArgument},
		{9, 1, 1, 4, 0, api.ErrArgument},
		{9, 1, 1, 5, 8, api.ErrArgument},
		{api.ARGB8888, 0, 1, 3, 0, api.ErrRange},
		{api.XRGB8888, 1, most + 1, 5, 0, api.ErrRange},
		{api.ARGB8888, most + 1, 1, 4 * most, 4 * most, api.ErrRange},
		{api.ARGB8888, 1, 1, 5, 0, api.ErrBuffer},
		{api.XRGB8888, 2, 2, 4, 3, api.ErrBuffer},
	} {
		got, e := buffer.Decode(x.format, x.w, x.h, x.stride, make([]byte, x.bytes))
		refuses(t, got, e, x.want, "Decode", x)
	}
}

// P9.2 and P1: numbers of the full range of their types, such that the products of strides and heights overflow.
func TestDecodeExtremes(t *testing.T) {
	data := bytesOf(64)
	for _, n := range extremes {
		if n != api.ARGB8888 && n != api.XRGB8888 {
			got, e := buffer.Decode(n, 1, 1, 4, data)
			refuses(t, got, e, api.ErrArgument, "Decode: the format", n)
		}
		if n < 1 || n > most {
			for _, stride := range extremes {
				got, e := buffer.Decode(api.ARGB8888, n, 1, stride, data)
				refuses(t, got, e, api.ErrRange, "Decode: the width", n, stride)
				got, e = buffer.Decode(api.XRGB8888, 1, n, stride, data)
				refuses(t, got, e, api.ErrRange, "Decode: the height", n, stride)
			}
		}
		for _, h := range []int{1, 2, 3, 4, 8, 64, most} {
			got, e := buffer.Decode(api.ARGB8888, 1, h, n, data)
			switch {
			case n < 4 || n%4 != 0:
				refuses(t, got, e, api.ErrBuffer, "Decode: the stride", n, h)
			case n > 64 || n*h > 64:
				refuses(t, got, e, api.ErrTruncated, "Decode: the stride", n, h)
			default:
				gives(t, got, e, decoded(api.ARGB8888, 1, h, n, data), "Decode: the stride", n, h)
			}
		}
	}
}

// P9.2: all numbers of bytes around the one that is needed.
func TestDecodeLengths(t *testing.T) {
	data := bytesOf(64)
	for n := range 65 {
		got, e := buffer.Decode(api.ARGB8888, 2, 3, 12, data[:n])
		if n < 36 {
			refuses(t, got, e, api.ErrTruncated, "Decode", n)
		} else {
			gives(t, got, e, decoded(api.ARGB8888, 2, 3, 12, data), "Decode", n)
		}
		got, e = buffer.Decode(api.ARGB8888, 1, 1, n, data)
		if n < 4 || n%4 != 0 {
			refuses(t, got, e, api.ErrBuffer, "Decode", n)
		} else {
			gives(t, got, e, decoded(api.ARGB8888, 1, 1, n, data), "Decode", n)
		}
	}
}

// P9.2: the bytes of buffers, by hand and for all that are valid, and none for those that are not.
func TestEncode(t *testing.T) {
	b := api.Buffer{Width: 2, Height: 2, Pixels: []api.Pixel{px(1, 2, 3, 4), px(50, 60, 70, 80), {}, px(255, 128, 0, 255)}}
	if got, want := buffer.Encode(b), []byte{3, 2, 1, 4, 70, 60, 50, 80, 0, 0, 0, 0, 0, 128, 255, 255}; !slices.Equal(got, want) {
		t.Errorf("got %v, want %v", got, want)
	}
	for _, b := range good() {
		var want []byte
		for _, p := range b.Pixels {
			want = append(want, p.B, p.G, p.R, p.A)
		}
		if got := buffer.Encode(b); !slices.Equal(got, want) {
			t.Errorf("%v: got %d bytes", brief(b), len(got))
		}
	}
	for _, b := range bad() {
		if got := buffer.Encode(b); len(got) != 0 {
			t.Errorf("%v: got %d bytes", brief(b), len(got))
		}
	}
}

// P9.3: parts of a picture by hand.
func TestCrop(t *testing.T) {
	b := paint("ABcd", "EfgH", "ijKL")
	for _, x := range []struct {
		r    api.Rect
		want picture
	}{
		{box(0, 0, 4, 3), picture{"ABcd", "EfgH", "ijKL"}},
		{box(0, 0, 1, 1), picture{"A"}},
		{box(3, 2, 4, 3), picture{"L"}},
		{box(1, 0, 3, 2), picture{"Bc", "fg"}},
		{box(0, 1, 4, 2), picture{"EfgH"}},
		{box(2, 0, 3, 3), picture{"c", "g", "K"}},
		{box(1, 1, 4, 3), picture{"fgH", "jKL"}},
	} {
		got, e := buffer.Crop(b, x.r)
		gives(t, got, e, paint(x.want...), "Crop", x.r)
	}
}

// P9.3: all rectangles around a picture; those that are empty or not within it are ErrRange.
func TestCropRects(t *testing.T) {
	for _, a := range []picture{{"A"}, {"AbC"}, {"A", "b", "C"}, {"ABcd", "EfgH", "ijKL"}} {
		b := paint(a...)
		for i := range 9 * 9 * 9 * 9 {
			r := box(i%9-2, i/9%9-2, i/81%9-2, i/729-2)
			got, e := buffer.Crop(b, r)
			if r.X0 < 0 || r.Y0 < 0 || r.X0 >= r.X1 || r.Y0 >= r.Y1 || r.X1 > len(a[0]) || r.Y1 > len(a) {
				refuses(t, got, e, api.ErrRange, "Crop", a, r)
				continue
			}
			var want picture
			for _, row := range a[r.Y0:r.Y1] {
				want = append(want, row[r.X0:r.X1])
			}
			gives(t, got, e, paint(want...), "Crop", a, r)
		}
	}
}

// P9.3: a buffer of the greatest size, and the example of the chapter.
func TestCropLarge(t *testing.T) {
	b := noisy(numbers(), most, most)
	got, e := buffer.Crop(b, box(0, 0, most, most))
	gives(t, got, e, b, "Crop to everything")
	got, e = buffer.Crop(b, box(most-1, most-1, most, most))
	gives(t, got, e, api.Buffer{Width: 1, Height: 1, Pixels: b.Pixels[most*most-1:]}, "Crop to the last pixel")
	got, e = buffer.Crop(b, box(0, 7, most, 9))
	gives(t, got, e, api.Buffer{Width: most, Height: 2, Pixels: b.Pixels[7*most : 9*most]}, "Crop to two rows")
	for _, r := range []api.Rect{box(0, 0, most+1, 1), box(0, 0, 1, most+1), box(-1, 0, most, most), box(0, -1, most, most)} {
		got, e = buffer.Crop(b, r)
		refuses(t, got, e, api.ErrRange, "Crop", r)
	}
	got, e = buffer.Crop(plain(2, 2), box(1, 0, 3, 1))
	refuses(t, got, e, api.ErrRange, "Crop of 2 by 2 pixels")
}

// P9.3: invalid buffers, also together with rectangles that are empty or not within the frame; rectangles with numbers of the full range.
func TestCropErrors(t *testing.T) {
	for _, b := range bad() {
		for _, r := range []api.Rect{{}, box(0, 0, 1, 1), box(0, 0, b.Width, b.Height), box(-1, 0, 1, 1), box(0, 0, math.MaxInt, 1)} {
			got, e := buffer.Crop(b, r)
			refuses(t, got, e, api.ErrBuffer, "Crop", brief(b), r)
		}
	}
	b := plain(3, 3)
	for _, n := range extremes {
		for _, m := range extremes {
			for _, r := range []api.Rect{box(n, 0, m, 1), box(0, n, 1, m), box(n, n, m, m), box(0, 0, n, m), box(n, m, 3, 3)} {
				if min(r.X0, r.Y0) < 0 || max(r.X1, r.Y1) > 3 || r.X0 >= r.X1 || r.Y0 >= r.Y1 {
					got, e := buffer.Crop(b, r)
					refuses(t, got, e, api.ErrRange, "Crop", r)
				}
			}
		}
	}
}

// places yields all positions around the frame of a buffer.
func places() iter.Seq2[int, int] {
	return func(yield func(int, int) bool) {
		for y := -6; y <= 6; y++ {
			for x := -6; x <= 6; x++ {
				if !yield(x, y) {
					return
				}
			}
		}
	}
}

// P9.4: pasted and blended pictures by hand.
func TestPaste(t *testing.T) {
	d, s := paint("ABc.", "EfgH", "ijKL"), paint("Xy", "z.")
	for _, x := range []struct {
		x, y int
		want picture
	}{
		{0, 0, picture{"Xyc.", "z.gH", "ijKL"}},
		{1, 1, picture{"ABc.", "EXyH", "iz.L"}},
		{3, 0, picture{"ABcX", "Efgz", "ijKL"}},
		{-1, 2, picture{"ABc.", "EfgH", "yjKL"}},
		{-1, -1, picture{".Bc.", "EfgH", "ijKL"}},
		{3, 2, picture{"ABc.", "EfgH", "ijKX"}},
		{4, 0, picture{"ABc.", "EfgH", "ijKL"}},
		{0, -2, picture{"ABc.", "EfgH", "ijKL"}},
	} {
		got, e := buffer.Paste(d, s, x.x, x.y)
		gives(t, got, e, paint(x.want...), "Paste", x.x, x.y)
	}
	b := api.Buffer{Width: 2, Height: 1, Pixels: []api.Pixel{px(0, 0, 0, 255), px(0, 255, 0, 255)}}
	gray := api.Buffer{Width: 2, Height: 1, Pixels: []api.Pixel{px(128, 128, 128, 128), px(0, 0, 128, 128)}}
	got, e := buffer.BlendOver(b, gray, 0, 0)
	gives(t, got, e, api.Buffer{Width: 2, Height: 1, Pixels: []api.Pixel{px(128, 128, 128, 255), px(0, 127, 128, 255)}}, "BlendOver")
	got, e = buffer.BlendOver(b, gray, 1, 0)
	gives(t, got, e, api.Buffer{Width: 2, Height: 1, Pixels: []api.Pixel{px(0, 0, 0, 255), px(128, 255, 128, 255)}}, "BlendOver to the right")
	got, e = buffer.BlendOver(b, gray, -1, 0)
	gives(t, got, e, api.Buffer{Width: 2, Height: 1, Pixels: []api.Pixel{px(0, 0, 128, 255), px(0, 255, 0, 255)}}, "BlendOver to the left")
}

// P9.4: pictures that are smaller, greater, wider or higher than the one they are placed on, at all positions that meet its frame and around them.
func TestPastePlaces(t *testing.T) {
	pictures := []picture{{"A"}, {"x"}, {"AbCd"}, {"A", "b", "C", "d"}, {"wX", "Yz"}, {"ABc.", "EfgH", "ijKL"}, {"mnoP.", "QRSTU", "vwxyz", "LMNOP", "aBcDe"}}
	for _, d := range pictures {
		for _, s := range pictures {
			for x, y := range places() {
				got, e := buffer.Paste(paint(d...), paint(s...), x, y)
				gives(t, got, e, paint(d.pasted(s, x, y)...), "Paste", d, s, x, y)
				got, e = buffer.BlendOver(paint(d...), paint(s...), x, y)
				gives(t, got, e, d.blended(s, x, y), "BlendOver", d, s, x, y)
			}
		}
	}
}

// P9.4 and P9.7: a buffer that is far outside the frame, or beside it, changes nothing, whatever sums overflow.
func TestPasteFar(t *testing.T) {
	for _, d := range []api.Buffer{paint("A"), paint("aB.", "Cd."), plain(most, 1), plain(1, most)} {
		for _, s := range []api.Buffer{paint("X"), paint("xY", "Z.", "w."), striped(most, 1), striped(1, most)} {
			for _, x := range extremes {
				for _, y := range extremes {
					if x > -s.Width && x < d.Width && y > -s.Height && y < d.Height {
						continue
					}
					got, e := buffer.Paste(d, s, x, y)
					gives(t, got, e, d, "Paste", x, y)
					got, e = buffer.BlendOver(d, s, x, y)
					gives(t, got, e, d, "BlendOver", x, y)
				}
			}
		}
	}
}

// near reports whether buffers can meet if one is that far from the other; differences of such numbers do not overflow.
func near(n int) bool {
	return n > -most && n < most
}

// P9.4: buffers of the greatest size, covering each other in one pixel, one row, one column, and entirely.
func TestPasteLarge(t *testing.T) {
	random := numbers()
	d, s := noisy(random, most, most), noisy(random, most, most)
	places := [][2]int{{0, 0}, {most - 1, most - 1}, {1 - most, 1 - most}, {most - 1, 1 - most}, {0, most - 1}, {1 - most, 0}, {100, -50}, {-3, 200}}
	for _, n := range []int{most, -most, math.MinInt, math.MaxInt, 1 << 32, -1 << 32} { // beside the frame and far outside it
		places = append(places, [2]int{n, 0}, [2]int{0, n}, [2]int{n, n}, [2]int{1, n})
	}
	for _, at := range places {
		pasted, blended := slices.Clone(d.Pixels), slices.Clone(d.Pixels)
		for i := range d.Pixels {
			x, y := i%most-at[0], i/most-at[1]
			if near(at[0]) && near(at[1]) && x >= 0 && x < most && y >= 0 && y < most {
				pasted[i] = s.Pixels[y*most+x]
				blended[i] = pixel.Over(pasted[i], d.Pixels[i])
			}
		}
		got, e := buffer.Paste(d, s, at[0], at[1])
		gives(t, got, e, api.Buffer{Width: most, Height: most, Pixels: pasted}, "Paste", at)
		got, e = buffer.BlendOver(d, s, at[0], at[1])
		gives(t, got, e, api.Buffer{Width: most, Height: most, Pixels: blended}, "BlendOver", at)
	}
}

// P9.4: an invalid buffer is ErrBuffer, wherever it is placed, also together with another one.
func TestPasteErrors(t *testing.T) {
	for i, b := range bad() {
		other := bad()[(i*7+3)%len(bad())]
		for _, at := range [][2]int{{0, 0}, {1, 1}, {-1, 5}, {most, most}, {math.MinInt, math.MaxInt}} {
			for _, pair := range [][2]api.Buffer{{b, striped(3, 2)}, {striped(3, 2), b}, {b, b}, {b, other}} {
				got, e := buffer.Paste(pair[0], pair[1], at[0], at[1])
				refuses(t, got, e, api.ErrBuffer, "Paste", brief(pair[0]), brief(pair[1]), at)
				got, e = buffer.BlendOver(pair[0], pair[1], at[0], at[1])
				refuses(t, got, e, api.ErrBuffer, "BlendOver", brief(pair[0]), brief(pair[1]), at)
			}
		}
	}
}

// P9.5: runs by hand: of one row and of several, which are not joined; at the ends of rows and across the whole row.
func TestDiff(t *testing.T) {
	for _, x := range []struct {
		a, b picture
		want []api.Rect
	}{
		{picture{"WWW"}, picture{"WBW"}, []api.Rect{box(1, 0, 2, 1)}},
		{picture{"WWW"}, picture{"WWW"}, nil},
		{picture{"."}, picture{"A"}, []api.Rect{box(0, 0, 1, 1)}},
		{picture{"abcd"}, picture{"ABCD"}, []api.Rect{box(0, 0, 4, 1)}},
		{picture{"abcdefg"}, picture{"Ab..e.G"}, []api.Rect{box(0, 0, 1, 1), box(2, 0, 4, 1), box(5, 0, 7, 1)}},
		{picture{"aa", "aa"}, picture{"bb", "bb"}, []api.Rect{box(0, 0, 2, 1), box(0, 1, 2, 2)}},
		{picture{"aaa", "aaa"}, picture{"aab", "baa"}, []api.Rect{box(2, 0, 3, 1), box(0, 1, 1, 2)}},
		{picture{"a", "b", "c"}, picture{"x", "b", "y"}, []api.Rect{box(0, 0, 1, 1), box(0, 2, 1, 3)}},
		{picture{"aaaa", "aaaa", "aaaa"}, picture{"aaaa", "bbab", "aaaa"}, []api.Rect{box(0, 1, 2, 2), box(3, 1, 4, 2)}},
	} {
		got, e := buffer.Diff(paint(x.a...), paint(x.b...))
		lists(t, got, e, x.want, api.OK, "Diff", x.a, x.b)
		got, e = buffer.Diff(paint(x.b...), paint(x.a...))
		lists(t, got, e, x.want, api.OK, "Diff", x.b, x.a)
	}
	white, _ := buffer.New(3, 1, px(255, 255, 255, 255))
	for _, p := range []api.Pixel{px(0, 0, 0, 255), px(254, 255, 255, 255), px(255, 254, 255, 255), px(255, 255, 254, 255)} {
		other := white
		other.Pixels = []api.Pixel{white.Pixels[0], p, white.Pixels[2]}
		got, e := buffer.Diff(white, other)
		lists(t, got, e, []api.Rect{box(1, 0, 2, 1)}, api.OK, "Diff of white pixels", p)
	}
	got, e := buffer.Diff(plain(1, 1), api.Buffer{Width: 1, Height: 1, Pixels: []api.Pixel{px(1, 2, 3, 5)}})
	lists(t, got, e, []api.Rect{box(0, 0, 1, 1)}, api.OK, "Diff of alphas")
}

// P9.5: the runs of opaque pixels by hand; an alpha of 254 is not opaque.
func TestOpaqueRegion(t *testing.T) {
	for _, x := range []struct {
		b    picture
		want []api.Rect
	}{
		{picture{"A"}, []api.Rect{box(0, 0, 1, 1)}},
		{picture{"a"}, nil},
		{picture{"."}, nil},
		{picture{"aBCd.EfG"}, []api.Rect{box(1, 0, 3, 1), box(5, 0, 6, 1), box(7, 0, 8, 1)}},
		{picture{"AB", "CD", "ef", "GH"}, []api.Rect{box(0, 0, 2, 1), box(0, 1, 2, 2), box(0, 3, 2, 4)}},
		{picture{"..A", "B.."}, []api.Rect{box(2, 0, 3, 1), box(0, 1, 1, 2)}},
	} {
		got, e := buffer.OpaqueRegion(paint(x.b...))
		lists(t, got, e, x.want, api.OK, "OpaqueRegion", x.b)
	}
	b := api.Buffer{Width: 3, Height: 1, Pixels: []api.Pixel{px(254, 254, 254, 254), px(0, 0, 0, 255), px(0, 0, 0, 0)}}
	got, e := buffer.OpaqueRegion(b)
	lists(t, got, e, []api.Rect{box(1, 0, 2, 1)}, api.OK, "OpaqueRegion of alphas")
}

// runs is the definition of the runs of a set of positions: in each row, the intervals that belong to the set and whose neighbours do not.
func runs(w, h int, belongs func(x, y int) bool) []api.Rect {
	in := func(x, y int) bool { return x >= 0 && x < w && belongs(x, y) }
	var out []api.Rect
	for y := range h {
		for x0 := range w {
			for x1 := x0 + 1; x1 <= w && in(x1-1, y); x1++ {
				if !in(x0-1, y) && !in(x1, y) {
					out = append(out, box(x0, y, x1, y+1))
				}
			}
		}
	}
	return out
}

// P9.5 and P9.6: random pictures of few letters, so that there are runs of all lengths; their differences can be pasted.
func TestDiffPictures(t *testing.T) {
	random := numbers()
	for range 2000 {
		w, h := 1+random.IntN(9), 1+random.IntN(7)
		letters := []string{"AAb", "Ab.", "A.......", "ABCdef"}[random.IntN(4)]
		p, q := scatter(random, w, h, letters), scatter(random, w, h, letters)
		checkDiff(t, paint(p...), paint(q...))
	}
}

// checkDiff compares Diff and OpaqueRegion with their definition, for buffers of one size, and checks P9.6.
func checkDiff(t *testing.T, a, b api.Buffer) {
	t.Helper()
	at := func(b api.Buffer, x, y int) api.Pixel { return b.Pixels[y*b.Width+x] }
	differ := runs(a.Width, a.Height, func(x, y int) bool { return at(a, x, y) != at(b, x, y) })
	got, e := buffer.Diff(a, b)
	if len(differ) > api.MaxRects {
		lists(t, got, e, nil, api.ErrLimit, "Diff")
	} else {
		lists(t, got, e, differ, api.OK, "Diff")
		patched := a
		for _, r := range got {
			part, e1 := buffer.Crop(b, r)
			next, e2 := buffer.Paste(patched, part, r.X0, r.Y0)
			if e1 != api.OK || e2 != api.OK {
				t.Fatalf("%v: %d, %d", r, e1, e2)
			}
			patched = next
		}
		gives(t, patched, api.OK, b, "pasting what differs")
	}
	opaque := runs(a.Width, a.Height, func(x, y int) bool { return at(a, x, y).A == 255 })
	got, e = buffer.OpaqueRegion(a)
	if len(opaque) > api.MaxRects {
		lists(t, got, e, nil, api.ErrLimit, "OpaqueRegion")
	} else {
		lists(t, got, e, opaque, api.OK, "OpaqueRegion")
	}
}

// P9.5: exactly MaxRects runs, one fewer, one more, and as many as there can be.
func TestRunLimits(t *testing.T) {
	for _, x := range []struct{ w, h, runs int }{
		{1, most, most}, {most, 2, most}, {most, 3, most + most/2}, {3, most / 2, most}, {3, most/2 + 1, most + 2}, {most, most, most * most / 2}, {5, 85, 255}, {5, 86, 258}, {most, 1, most / 2},
	} {
		b := striped(x.w, x.h)
		want := api.OK
		if x.runs > api.MaxRects {
			want = api.ErrLimit
		}
		checkCount(t, b, x.runs, want)
	}
	b := striped(5, 85) // with 255 runs
	b.Height++
	for _, row := range []struct {
		pixels string
		runs   int
		want   api.Errno
	}{{"abcde", 255, api.OK}, {"....E", 256, api.OK}, {"ABCDE", 256, api.OK}, {"ABC.E", 257, api.ErrLimit}, {"A.C.E", 258, api.ErrLimit}} {
		b.Pixels = append(b.Pixels[:425:425], paint(row.pixels).Pixels...)
		checkCount(t, b, row.runs, row.want)
	}
}

// checkCount checks how many runs the opaque pixels of b have, and the same pixels where they are all that differs from another buffer.
func checkCount(t *testing.T, b api.Buffer, count int, want api.Errno) {
	t.Helper()
	other := b
	other.Pixels = slices.Clone(b.Pixels)
	for i, p := range b.Pixels {
		if p.A == 255 {
			other.Pixels[i] = px(p.R, p.G, p.B, 254)
		}
	}
	if want != api.OK {
		count = 0
	}
	opaque, e := buffer.OpaqueRegion(b)
	if e != want || len(opaque) != count {
		t.Fatalf("%d by %d: %d opaque runs, %d", b.Width, b.Height, len(opaque), e)
	}
	differ, e := buffer.Diff(b, other)
	lists(t, differ, e, opaque, want, "Diff", b.Width, b.Height)
}

// P9.5: rows that are opaque from end to end are a run each, as many as there are rows.
func TestWholeRows(t *testing.T) {
	b, _ := buffer.New(most, most, px(0, 0, 0, 255))
	var rows []api.Rect
	for y := range most {
		rows = append(rows, box(0, y, most, y+1))
	}
	got, e := buffer.OpaqueRegion(b)
	lists(t, got, e, rows, api.OK, "OpaqueRegion")
	got, e = buffer.Diff(b, plain(most, most))
	lists(t, got, e, rows, api.OK, "Diff")
	b.Pixels[7*most+9] = px(0, 0, 0, 254)
	got, e = buffer.OpaqueRegion(b)
	lists(t, got, e, nil, api.ErrLimit, "OpaqueRegion")
	got, e = buffer.Diff(b, plain(most, most))
	lists(t, got, e, rows, api.OK, "Diff")
}

// P9.5: invalid buffers, sizes that differ, too many runs, and several of them at once.
func TestDiffErrors(t *testing.T) {
	for i, b := range bad() {
		other := bad()[(i*5+2)%len(bad())]
		for _, pair := range [][2]api.Buffer{{b, striped(3, 2)}, {striped(3, 2), b}, {b, b}, {b, other}, {plain(1, 1), b}, {b, striped(most, most)}} {
			got, e := buffer.Diff(pair[0], pair[1])
			lists(t, got, e, nil, api.ErrBuffer, "Diff", brief(pair[0]), brief(pair[1]))
		}
		got, e := buffer.OpaqueRegion(b)
		lists(t, got, e, nil, api.ErrBuffer, "OpaqueRegion", brief(b))
	}
	for i, a := range good() {
		for j, b := range good() {
			if i == j || a.Width == b.Width && a.Height == b.Height {
				continue
			}
			got, e := buffer.Diff(a, b)
			lists(t, got, e, nil, api.ErrArgument, "Diff", brief(a), brief(b))
		}
	}
	for _, pair := range [][2]api.Buffer{{plain(6, 1), plain(1, 6)}, {plain(2, 3), plain(3, 2)}, {plain(3, 2), plain(4, 2)}, {plain(3, 2), plain(3, 1)}, {striped(most, most), plain(most, most-1)}} {
		got, e := buffer.Diff(pair[0], pair[1])
		lists(t, got, e, nil, api.ErrArgument, "Diff", brief(pair[0]), brief(pair[1]))
	}
}

// P9.7: Decode of Encode is the buffer, for buffers of all sizes in one row or column and for random ones.
func TestEncodeInverse(t *testing.T) {
	random := numbers()
	all := good()
	for n := 1; n <= most; n++ {
		all = append(all, noisy(random, n, 1), noisy(random, 1, n))
	}
	for _, b := range append(all, noisy(random, most, most), noisy(random, 17, 31)) {
		got, e := buffer.Decode(api.ARGB8888, b.Width, b.Height, 4*b.Width, buffer.Encode(b))
		gives(t, got, e, b, "Decode of Encode")
	}
}

// P9.7: a buffer pasted into itself, and a part of it pasted at its place, change nothing.
func TestPasteItself(t *testing.T) {
	for _, b := range good() {
		got, e := buffer.Paste(b, b, 0, 0)
		gives(t, got, e, b, "Paste into itself")
	}
	b := noisy(numbers(), 5, 4)
	for i := range 5 * 4 * 6 * 5 {
		r := box(i%5, i/5%4, i/20%6, i/120)
		part, e := buffer.Crop(b, r)
		if r.X0 >= r.X1 || r.Y0 >= r.Y1 {
			refuses(t, part, e, api.ErrRange, "Crop", r)
			continue
		}
		got, e := buffer.Paste(b, part, r.X0, r.Y0)
		gives(t, got, e, b, "Paste of what Crop returned", r)
	}
}

// P9.4 and P8.6: the pixels of a valid result of BlendOver: an opaque buffer replaces what is below it, an empty one changes nothing.
func TestBlendNeutral(t *testing.T) {
	random := numbers()
	d := noisy(random, 7, 5)
	empty, _ := buffer.New(7, 5, api.Pixel{})
	solid, _ := buffer.New(7, 5, px(1, 2, 3, 255))
	for x, y := range places() {
		got, e := buffer.BlendOver(d, empty, x, y)
		gives(t, got, e, d, "BlendOver with the zero pixel", x, y)
		pasted, _ := buffer.Paste(d, solid, x, y)
		got, e = buffer.BlendOver(d, solid, x, y)
		gives(t, got, e, pasted, "BlendOver with opaque pixels", x, y)
		got, e = buffer.BlendOver(d, d, x, y)
		if e != api.OK || !buffer.Valid(got) {
			t.Errorf("blended with itself: %v, %d", brief(got), e)
		}
	}
}

// marker is a pixel that stands behind the pixels of a buffer and must stay there.
var marker = px(7, 7, 7, 7)

// roomy returns the buffer in new memory with marked spare capacity.
func roomy(b api.Buffer) api.Buffer {
	n := len(b.Pixels)
	b.Pixels = append(slices.Clone(b.Pixels), marker, marker, marker)[:n]
	return b
}

// spoil overwrites everything that can be reached through a slice.
func spoil[T any](l []T, v T) {
	for i := range l[:cap(l)] {
		l[:cap(l)][i] = v
	}
}

// R3: the functions that return buffers neither modify nor keep their arguments, and return new memory.
func TestMemory(t *testing.T) {
	calls := map[string]func(d, s api.Buffer) (api.Buffer, api.Errno){
		"Crop":           func(d, s api.Buffer) (api.Buffer, api.Errno) { return buffer.Crop(d, box(0, 1, 4, 3)) },
		"Crop to a part": func(d, s api.Buffer) (api.Buffer, api.Errno) { return buffer.Crop(d, box(1, 0, 3, 2)) },
		"Crop to all":    func(d, s api.Buffer) (api.Buffer, api.Errno) { return buffer.Crop(d, box(0, 0, 4, 3)) },
		"Paste":          func(d, s api.Buffer) (api.Buffer, api.Errno) { return buffer.Paste(d, s, 1, -1) },
		"Paste itself":   func(d, s api.Buffer) (api.Buffer, api.Errno) { return buffer.Paste(d, d, 0, 0) },
		"Paste all":      func(d, s api.Buffer) (api.Buffer, api.Errno) { return buffer.Paste(s, d, -1, -1) },
		"Paste far":      func(d, s api.Buffer) (api.Buffer, api.Errno) { return buffer.Paste(d, s, 9, 9) },
		"Blend":          func(d, s api.Buffer) (api.Buffer, api.Errno) { return buffer.BlendOver(d, s, 0, 1) },
		"Blend itself":   func(d, s api.Buffer) (api.Buffer, api.Errno) { return buffer.BlendOver(d, d, 1, 1) },
		"Blend far":      func(d, s api.Buffer) (api.Buffer, api.Errno) { return buffer.BlendOver(d, s, -9, 0) },
	}
	for name, call := range calls {
		d, s := roomy(paint("ABc.", "EfgH", "ijKL")), roomy(paint("Xy", "z."))
		beforeD, beforeS := slices.Clone(d.Pixels[:cap(d.Pixels)]), slices.Clone(s.Pixels[:cap(s.Pixels)])
		first, e := call(d, s)
		want := api.Buffer{Width: first.Width, Height: first.Height, Pixels: slices.Clone(first.Pixels)}
		if e != api.OK {
			t.Fatalf("%s: %d", name, e)
		}
		spoil(first.Pixels, marker)
		if !slices.Equal(d.Pixels[:cap(d.Pixels)], beforeD) || !slices.Equal(s.Pixels[:cap(s.Pixels)], beforeS) {
			t.Errorf("%s: an argument changed", name)
		}
		second, e := call(d, s)
		third, _ := call(d, s)
		spoil(d.Pixels, marker)
		spoil(s.Pixels, marker)
		spoil(third.Pixels, marker)
		gives(t, second, e, want, name)
	}
}

// R3: the same for bytes, runs, and buffers made from bytes or from nothing.
func TestMemoryOthers(t *testing.T) {
	data := bytesOf(40)
	b, _ := buffer.Decode(api.ARGB8888, 2, 2, 12, data[:24])
	want := decoded(api.ARGB8888, 2, 2, 12, bytesOf(40))
	if !slices.Equal(data, bytesOf(40)) {
		t.Error("Decode changed its bytes")
	}
	spoil(data, 0)
	gives(t, b, api.OK, want, "Decode")

	b = roomy(b)
	before := slices.Clone(b.Pixels[:cap(b.Pixels)])
	first, second := buffer.Encode(b), buffer.Encode(b)
	spoil(first, 0)
	opaque, _ := buffer.OpaqueRegion(b)
	differ, _ := buffer.Diff(b, plain(2, 2))
	again, _ := buffer.Diff(b, plain(2, 2))
	spoil(differ, api.Rect{})
	buffer.Valid(b)
	buffer.At(b, 1, 1)
	buffer.Equal(b, b)
	if !slices.Equal(b.Pixels[:cap(b.Pixels)], before) || len(opaque) != 0 || !slices.Equal(again, []api.Rect{box(0, 0, 2, 1), box(0, 1, 2, 2)}) {
		t.Errorf("%v, %v, %v", b, opaque, again)
	}
	spoil(b.Pixels, marker)
	got, e := buffer.Decode(api.ARGB8888, 2, 2, 8, second)
	gives(t, got, e, want, "Encode")

	one, _ := buffer.New(2, 2, marker)
	two, _ := buffer.New(2, 2, marker)
	spoil(one.Pixels, api.Pixel{})
	gives(t, two, api.OK, api.Buffer{Width: 2, Height: 2, Pixels: []api.Pixel{marker, marker, marker, marker}}, "New")
}

// R2 and R3: a call that fails does not change its arguments either.
func TestMemoryErrors(t *testing.T) {
	for _, b := range bad() {
		b = roomy(b)
		other := roomy(striped(3, 2))
		before, beforeOther := slices.Clone(b.Pixels[:cap(b.Pixels)]), slices.Clone(other.Pixels[:cap(other.Pixels)])
		buffer.Crop(b, box(0, 0, 1, 1))
		buffer.Paste(b, other, 0, 0)
		buffer.Paste(other, b, 0, 0)
		buffer.BlendOver(b, other, 0, 0)
		buffer.BlendOver(other, b, 0, 0)
		buffer.Encode(b)
		buffer.Diff(b, other)
		buffer.OpaqueRegion(b)
		buffer.At(b, 0, 0)
		if !slices.Equal(b.Pixels[:cap(b.Pixels)], before) || !slices.Equal(other.Pixels[:cap(other.Pixels)], beforeOther) {
			t.Errorf("%v changed", brief(b))
		}
	}
}

// P1: every function returns for all buffers, with numbers of the full range.
func TestReturns(t *testing.T) {
	for _, b := range append(bad(), paint("aB", "C.")) {
		for _, n := range extremes {
			for _, m := range extremes {
				buffer.At(b, n, m)
				buffer.Crop(b, box(n, m, m, n))
				buffer.Paste(b, paint("x"), n, m)
				buffer.Paste(paint("x"), b, n, m)
				buffer.BlendOver(b, paint("x"), n, m)
				buffer.BlendOver(paint("x"), b, n, m)
			}
			buffer.New(n, b.Width, px(0, 0, 0, 1))
			buffer.Decode(api.ARGB8888, b.Width, b.Height, n, nil)
			buffer.Decode(n, b.Height, n, b.Width, []byte{1})
		}
	}
}

// R6: results depend only on the arguments, not on earlier calls.
func TestNoState(t *testing.T) {
	first, _ := buffer.Crop(paint("aB", "C."), box(0, 0, 1, 2))
	for _, b := range append(good(), bad()...) {
		buffer.Paste(b, b, 1, 1)
		buffer.Diff(b, plain(3, 2))
		buffer.OpaqueRegion(b)
		got, e := buffer.Crop(paint("aB", "C."), box(0, 0, 1, 2))
		gives(t, got, e, first, "the same call again")
	}
}

// FuzzBuffers compares all functions with their definitions, for two buffers that are read from bytes.
func FuzzBuffers(f *testing.F) {
	f.Add([]byte{1, 2, 3, 0}, 1, 1, 4, 1, 1, true)
	f.Add(bytesOf(96), 3, 2, 16, -1, 1, false)
	f.Add(bytesOf(255), 4, 4, 16, 0, math.MaxInt, true)
	f.Fuzz(func(t *testing.T, data []byte, w, h, stride, x, y int, opaque bool) {
		format := api.ARGB8888
		if opaque {
			format = api.XRGB8888
		}
		a, e := buffer.Decode(format, w, h, stride, data)
		switch {
		case w < 1 || w > most || h < 1 || h > most:
			refuses(t, a, e, api.ErrRange, "Decode")
			return
		case stride < 4*w || stride%4 != 0:
			refuses(t, a, e, api.ErrBuffer, "Decode")
			return
		case stride > len(data) || stride*h > len(data):
			refuses(t, a, e, api.ErrTruncated, "Decode")
			return
		}
		gives(t, a, e, decoded(format, w, h, stride, data), "Decode")
		b := decoded(api.ARGB8888, w, h, stride, data)
		checkDiff(t, a, b)
		checkPlace(t, a, b, x, y)
		checkPlace(t, a, b, x%w, y%h)
		back, e := buffer.Decode(api.ARGB8888, w, h, 4*w, buffer.Encode(a))
		gives(t, back, e, a, "Decode of Encode")
	})
}

// checkPlace compares Paste, BlendOver, Crop and At with their definitions.
func checkPlace(t *testing.T, d, s api.Buffer, x, y int) {
	t.Helper()
	pasted, e1 := buffer.Paste(d, s, x, y)
	blended, e2 := buffer.BlendOver(d, s, x, y)
	if e1 != api.OK || e2 != api.OK || len(pasted.Pixels) != len(d.Pixels) || len(blended.Pixels) != len(d.Pixels) {
		t.Fatalf("%v and %d, %v and %d", brief(pasted), e1, brief(blended), e2)
	}
	for i, p := range d.Pixels {
		at := [2]int{i % d.Width, i / d.Width}
		if got := buffer.At(d, at[0], at[1]); got != p {
			t.Fatalf("%v: got %v, want %v", at, got, p)
		}
		q, over := p, p
		if near(x) && near(y) {
			if left, above := at[0]-x, at[1]-y; left >= 0 && left < s.Width && above >= 0 && above < s.Height {
				q = s.Pixels[above*s.Width+left]
				over = pixel.Over(q, p)
			}
		}
		if pasted.Pixels[i] != q || blended.Pixels[i] != over {
			t.Fatalf("%v: got %v and %v, want %v and %v", at, pasted.Pixels[i], blended.Pixels[i], q, over)
		}
	}
	r := box(x, y, d.Width, d.Height)
	part, e := buffer.Crop(d, r)
	if x < 0 || y < 0 || x >= d.Width || y >= d.Height {
		refuses(t, part, e, api.ErrRange, "Crop", r)
		return
	}
	for i, p := range part.Pixels {
		if want := d.Pixels[(y+i/part.Width)*d.Width+x+i%part.Width]; p != want {
			t.Fatalf("%v: got %v, want %v", r, p, want)
		}
	}
}
