package pixel_test

import (
	"iter"
	"math"
	"math/rand/v2"
	"slices"
	"testing"

	"compositor/api"
	"compositor/pixel"
)

// levels are bytes at both ends and around the middle of their range, with a few between them.
var levels = []uint8{0, 1, 2, 3, 50, 100, 126, 127, 128, 129, 200, 253, 254, 255}

// px is short for a pixel.
func px(r, g, b, a uint8) api.Pixel {
	return api.Pixel{R: r, G: g, B: b, A: a}
}

// components returns R, G, B and A.
func components(p api.Pixel) [4]uint8 {
	return [4]uint8{p.R, p.G, p.B, p.A}
}

// of is the inverse of components.
func of(c [4]uint8) api.Pixel {
	return px(c[0], c[1], c[2], c[3])
}

// premultiplied is the definition of valid pixels.
func premultiplied(p api.Pixel) bool {
	return p.R <= p.A && p.G <= p.A && p.B <= p.A
}

// limited is the definition of Clamp.
func limited(p api.Pixel) api.Pixel {
	for _, c := range []*uint8{&p.R, &p.G, &p.B} {
		if *c > p.A {
			*c = p.A
		}
	}
	return p
}

// product is the definition of the product of two bytes.
func product(a, b uint8) uint8 {
	return uint8(math.Round(float64(a) * float64(b) / 255))
}

// scaled is the definition of Scale for a valid pixel.
func scaled(p api.Pixel, k uint8) api.Pixel {
	c := components(p)
	for i := range c {
		c[i] = product(c[i], k)
	}
	return of(c)
}

// blended is the definition of Over for valid pixels. It returns false if a component is not a byte.
func blended(s, d api.Pixel) (api.Pixel, bool) {
	above, below := components(s), components(d)
	var out [4]uint8
	for i := range out {
		sum := int(above[i]) + int(product(below[i], 255-s.A))
		if sum > 255 {
			return api.Pixel{}, false
		}
		out[i] = uint8(sum)
	}
	return of(out), true
}

// averaged is the definition of Average for valid pixels: the greatest numbers that are at most the mean and one half.
func averaged(l []api.Pixel) api.Pixel {
	if len(l) == 0 {
		return api.Pixel{}
	}
	var out [4]uint8
	for i := range out {
		sum := 0
		for _, p := range l {
			sum += int(components(p)[i])
		}
		for n := 1; n <= 255 && (2*n-1)*len(l) <= 2*sum; n++ {
			out[i] = uint8(n)
		}
	}
	return of(out)
}

// packed is the definition of Pack for a valid pixel.
func packed(p api.Pixel) uint32 {
	return uint32(int(p.A)*(1<<24) + int(p.R)*(1<<16) + int(p.G)*(1<<8) + int(p.B))
}

// all yields all pixels whose components are levels, valid and not valid ones.
func all() iter.Seq[api.Pixel] {
	return func(yield func(api.Pixel) bool) {
		for i := range len(levels) * len(levels) * len(levels) * len(levels) {
			var c [4]uint8
			for j := range c {
				c[j] = levels[i%len(levels)]
				i /= len(levels)
			}
			if !yield(of(c)) {
				return
			}
		}
	}
}

// some returns a few pixels: the zero pixel, opaque ones, others that are valid, and for each alpha some that are not.
func some() []api.Pixel {
	var out []api.Pixel
	for _, a := range levels {
		out = append(out, px(0, 0, 0, a), px(a, a, a, a), px(a/2, a, a/3, a), px(0, a, a-a/4, a))
		if a < 255 {
			out = append(out, px(a+1, a, a, a), px(0, a+1, 0, a), px(a/2, 0, a+1, a), px(255, 255, 255, a))
		}
	}
	return append(out, px(200, 100, 50, 0), px(9, 8, 7, 6), px(6, 9, 8, 7), px(7, 6, 9, 8), px(255, 0, 128, 100))
}

// valid returns the valid pixels of l.
func valid(l []api.Pixel) []api.Pixel {
	return slices.DeleteFunc(slices.Clone(l), func(p api.Pixel) bool { return !premultiplied(p) })
}

// numbers returns numbers that are the same in each run of the tests.
func numbers() *rand.Rand {
	return rand.New(rand.NewPCG(8, 8))
}

// anyPixel returns a pixel whose components are independent of each other.
func anyPixel(random *rand.Rand) api.Pixel {
	n := random.Uint32()
	return px(uint8(n), uint8(n>>8), uint8(n>>16), uint8(n>>24))
}

// check reports a result that is not what is wanted, or not a valid pixel.
func check(t *testing.T, got, want api.Pixel, what string, args ...any) {
	t.Helper()
	if got != want {
		t.Errorf("%s of %v: got %v, want %v", what, args, got, want)
	}
	if !premultiplied(got) { // P8.6
		t.Errorf("%s of %v: %v is not valid", what, args, got)
	}
}

// P8.1: a pixel is valid if none of R, G and B exceeds A.
func TestValid(t *testing.T) {
	for _, p := range []api.Pixel{px(0, 0, 0, 0), px(0, 0, 0, 255), px(255, 255, 255, 255), px(128, 128, 128, 128), px(1, 2, 3, 3), px(3, 2, 1, 3), px(1, 3, 2, 3)} {
		if !pixel.Valid(p) {
			t.Errorf("%v is not valid", p)
		}
	}
	for _, p := range []api.Pixel{px(1, 0, 0, 0), px(0, 1, 0, 0), px(0, 0, 1, 0), px(129, 128, 128, 128), px(128, 129, 128, 128), px(128, 128, 129, 128), px(255, 255, 255, 254), px(255, 0, 0, 127)} {
		if pixel.Valid(p) {
			t.Errorf("%v is valid", p)
		}
	}
	for p := range all() {
		if got := pixel.Valid(p); got != premultiplied(p) {
			t.Fatalf("%v: %v", p, got)
		}
	}
}

// P8.1: Clamp limits R, G and B to A, and changes no valid pixel.
func TestClamp(t *testing.T) {
	for _, x := range []struct{ p, want api.Pixel }{
		{px(255, 100, 0, 128), px(128, 100, 0, 128)},
		{px(100, 129, 0, 128), px(100, 128, 0, 128)},
		{px(0, 100, 255, 128), px(0, 100, 128, 128)},
		{px(255, 254, 253, 252), px(252, 252, 252, 252)},
		{px(200, 100, 1, 0), px(0, 0, 0, 0)},
		{px(1, 2, 3, 4), px(1, 2, 3, 4)},
		{px(255, 0, 128, 255), px(255, 0, 128, 255)},
		{px(0, 0, 0, 0), px(0, 0, 0, 0)},
	} {
		check(t, pixel.Clamp(x.p), x.want, "Clamp", x.p)
	}
	for p := range all() {
		check(t, pixel.Clamp(p), limited(p), "Clamp", p)
	}
}

// P8.1: only the alpha 255 is opaque, whatever the color.
func TestOpaque(t *testing.T) {
	for a := range 256 {
		for _, c := range levels {
			for _, p := range []api.Pixel{px(c, 0, 0, uint8(a)), px(0, c, 0, uint8(a)), px(0, 0, c, uint8(a)), px(c, c, c, uint8(a))} {
				if got := pixel.Opaque(p); got != (a == 255) {
					t.Errorf("%v: %v", p, got)
				}
			}
		}
	}
}

// P8.2: products that are integers, and those next to the middle between two integers: their remainders by 255 are 127 or 128.
func TestProducts(t *testing.T) {
	for _, x := range []struct{ a, b, want uint8 }{
		{0, 0, 0}, {0, 255, 0}, {1, 255, 1}, {254, 255, 254}, {255, 255, 255}, {85, 3, 1}, {15, 17, 1}, {51, 5, 1}, {170, 3, 2},
		{1, 127, 0}, {1, 128, 1}, {127, 1, 0}, {128, 1, 1}, {2, 63, 0}, {2, 64, 1}, {11, 11, 0}, {12, 11, 1},
		{2, 191, 1}, {2, 192, 2}, {3, 127, 1}, {3, 128, 2}, {128, 127, 64}, {127, 127, 63}, {128, 128, 64}, {129, 127, 64}, {129, 128, 65}, {254, 254, 253}, {100, 128, 50},
	} {
		check(t, pixel.Scale(px(x.a, x.a, x.a, x.a), x.b), px(x.want, x.want, x.want, x.want), "Scale", x.a, x.b)
		check(t, pixel.Premultiply(x.a, x.a, x.a, x.b), px(x.want, x.want, x.want, x.b), "Premultiply", x.a, x.b)
	}
	low, high := 0, 0
	for a := range 256 {
		for b := range 256 {
			got := int(pixel.Scale(px(0, 0, 0, uint8(a)), uint8(b)).A)
			if distance := max(a*b-255*got, 255*got-a*b); distance > 127 {
				t.Errorf("the product of %d and %d: %d", a, b, got)
			}
			switch a * b % 255 {
			case 127:
				low++
			case 128:
				high++
			}
		}
	}
	if low == 0 || high == 0 {
		t.Errorf("%d products below and %d above the middle", low, high)
	}
}

// P8.2: the products of each color with each alpha, in each component.
func TestPremultiply(t *testing.T) {
	check(t, pixel.Premultiply(255, 100, 0, 128), px(128, 50, 0, 128), "Premultiply", 255, 100, 0, 128)
	check(t, pixel.Premultiply(10, 20, 30, 255), px(10, 20, 30, 255), "Premultiply", 10, 20, 30, 255)
	check(t, pixel.Premultiply(255, 254, 253, 0), px(0, 0, 0, 0), "Premultiply", 255, 254, 253, 0)
	check(t, pixel.Premultiply(255, 128, 127, 1), px(1, 1, 0, 1), "Premultiply", 255, 128, 127, 1)
	check(t, pixel.Premultiply(9, 200, 100, 51), px(2, 40, 20, 51), "Premultiply", 9, 200, 100, 51)
	for c := range 256 {
		for a := range 256 {
			r, g, b, a := uint8(c), uint8(255-c), uint8(c*7), uint8(a)
			check(t, pixel.Premultiply(r, g, b, a), px(product(r, a), product(g, a), product(b, a), a), "Premultiply", r, g, b, a)
		}
	}
}

// P8.2: the products of all four components with each factor; those of a pixel that is not valid are those of Clamp.
func TestScale(t *testing.T) {
	for _, x := range []struct {
		p    api.Pixel
		k    uint8
		want api.Pixel
	}{
		{px(255, 100, 0, 255), 128, px(128, 50, 0, 128)},
		{px(10, 20, 30, 40), 255, px(10, 20, 30, 40)},
		{px(10, 20, 30, 40), 0, px(0, 0, 0, 0)},
		{px(0, 0, 0, 0), 255, px(0, 0, 0, 0)},
		{px(1, 128, 127, 200), 1, px(0, 1, 0, 1)},
		{px(100, 50, 20, 200), 51, px(20, 10, 4, 40)},
		{px(255, 50, 201, 200), 51, px(40, 10, 40, 40)},
		{px(255, 255, 255, 0), 255, px(0, 0, 0, 0)},
		{px(200, 100, 199, 150), 255, px(150, 100, 150, 150)},
	} {
		check(t, pixel.Scale(x.p, x.k), x.want, "Scale", x.p, x.k)
	}
	for _, p := range some() {
		for k := range 256 {
			check(t, pixel.Scale(p, uint8(k)), scaled(limited(p), uint8(k)), "Scale", p, k)
		}
	}
	for p := range all() {
		k := p.R ^ p.B<<3 ^ p.A*5 ^ p.G*11
		check(t, pixel.Scale(p, k), scaled(limited(p), k), "Scale", p, k)
	}
}

// P8.3: blended pixels by hand, the example of the chapter among them, and pixels that are not valid.
func TestOver(t *testing.T) {
	for _, x := range []struct{ s, d, want api.Pixel }{
		{px(128, 128, 128, 128), px(0, 0, 0, 255), px(128, 128, 128, 255)},
		{px(128, 128, 128, 128), px(255, 255, 255, 255), px(255, 255, 255, 255)},
		{px(10, 20, 30, 51), px(100, 50, 0, 100), px(90, 60, 30, 131)},
		{px(0, 0, 0, 128), px(255, 100, 0, 255), px(127, 50, 0, 255)},
		{px(1, 0, 0, 1), px(1, 1, 1, 1), px(2, 1, 1, 2)},
		{px(0, 0, 0, 127), px(1, 0, 0, 1), px(1, 0, 0, 128)},
		{px(0, 0, 0, 128), px(1, 0, 0, 1), px(0, 0, 0, 128)},
		{px(254, 254, 254, 254), px(255, 255, 255, 255), px(255, 255, 255, 255)},
		{px(255, 0, 20, 51), px(100, 50, 0, 100), px(131, 40, 20, 131)},
		{px(10, 20, 30, 51), px(255, 50, 200, 100), px(90, 60, 110, 131)},
		{px(255, 255, 255, 0), px(9, 8, 7, 6), px(6, 6, 6, 6)},
		{px(9, 8, 7, 6), px(255, 255, 255, 0), px(6, 6, 6, 6)},
		{px(255, 255, 255, 0), px(1, 2, 3, 0), px(0, 0, 0, 0)},
	} {
		check(t, pixel.Over(x.s, x.d), x.want, "Over", x.s, x.d)
	}
}

// checkOver compares Over with its definition.
func checkOver(t *testing.T, s, d api.Pixel) {
	t.Helper()
	want, ok := blended(limited(s), limited(d))
	if !ok {
		t.Errorf("%v over %v exceeds a byte", s, d)
	}
	check(t, pixel.Over(s, d), want, "Over", s, d)
}

// P8.3: all pairs of some pixels, of each two alphas, and of pixels with any components.
func TestOverPairs(t *testing.T) {
	for _, s := range some() {
		for _, d := range some() {
			checkOver(t, s, d)
		}
	}
	for i := range 256 {
		for j := range 256 {
			a, b := uint8(i), uint8(j)
			checkOver(t, px(a, a/2, 0, a), px(b, b-b/3, 1, b))
		}
	}
	random := numbers()
	for range 200000 {
		checkOver(t, anyPixel(random), anyPixel(random))
	}
}

// P8.4: averages by hand, the example of the chapter among them: of no pixel, of one, with halves and with thirds, and of pixels that are not valid.
func TestAverage(t *testing.T) {
	for _, x := range []struct {
		l    []api.Pixel
		want api.Pixel
	}{
		{nil, px(0, 0, 0, 0)},
		{[]api.Pixel{}, px(0, 0, 0, 0)},
		{[]api.Pixel{px(0, 0, 0, 0)}, px(0, 0, 0, 0)},
		{[]api.Pixel{px(1, 2, 3, 4)}, px(1, 2, 3, 4)},
		{[]api.Pixel{px(255, 255, 255, 255)}, px(255, 255, 255, 255)},
		{[]api.Pixel{px(1, 0, 0, 2), px(2, 0, 0, 2)}, px(2, 0, 0, 2)},
		{[]api.Pixel{px(0, 0, 0, 0), px(1, 1, 1, 1)}, px(1, 1, 1, 1)},
		{[]api.Pixel{px(255, 255, 255, 255), px(255, 0, 254, 255)}, px(255, 128, 255, 255)},
		{[]api.Pixel{px(255, 254, 0, 255), px(254, 254, 1, 254)}, px(255, 254, 1, 255)},
		{[]api.Pixel{px(0, 0, 1, 1), px(0, 1, 1, 1), px(0, 0, 0, 1)}, px(0, 0, 1, 1)},
		{[]api.Pixel{px(10, 0, 5, 20), px(10, 1, 5, 30), px(11, 1, 6, 40), px(11, 0, 5, 50)}, px(11, 1, 5, 35)},
		{[]api.Pixel{px(9, 8, 7, 6)}, px(6, 6, 6, 6)},
		{[]api.Pixel{px(255, 255, 255, 0)}, px(0, 0, 0, 0)},
		{[]api.Pixel{px(255, 0, 0, 100), px(0, 200, 100, 200)}, px(50, 100, 50, 150)},
		{[]api.Pixel{px(0, 255, 3, 4), px(0, 0, 255, 0), px(255, 0, 0, 0)}, px(0, 1, 1, 1)},
	} {
		check(t, pixel.Average(x.l...), x.want, "Average", x.l)
	}
}

// P8.4: lists of all lengths up to 300, of pixels with any components.
func TestAverageLists(t *testing.T) {
	random := numbers()
	for n := range 300 {
		l, clamped := make([]api.Pixel, n), make([]api.Pixel, n)
		for i := range l {
			l[i] = anyPixel(random)
			clamped[i] = limited(l[i])
		}
		check(t, pixel.Average(l...), averaged(clamped), "Average", l)
	}
	for p := range all() {
		check(t, pixel.Average(p), limited(p), "Average", p)
	}
	for _, p := range some() {
		for _, q := range some() {
			check(t, pixel.Average(p, q), averaged([]api.Pixel{limited(p), limited(q)}), "Average", p, q)
		}
	}
}

// P8.4: many pixels, whose sums exceed 8, 16, 24 and 32 bits: means that are integers, halves, and just below halves.
func TestAverageMany(t *testing.T) {
	white, gray, below := px(255, 255, 255, 255), px(254, 100, 2, 254), px(253, 99, 1, 253)
	for _, n := range []int{2, 258, 1 << 17, 17 << 20} {
		l := slices.Repeat([]api.Pixel{white}, n)
		check(t, pixel.Average(l...), white, "Average", n, "white pixels")
		for i := range n / 2 {
			l[i] = gray
		}
		check(t, pixel.Average(l...), px(255, 178, 129, 255), "Average", n, "pixels, half of them gray")
		l[0] = below
		want := px(254, 177, 128, 254)
		check(t, pixel.Average(l...), want, "Average", n, "pixels, half of them gray or below")
	}
}

// R3: Average does not modify its arguments, nor the spare capacity behind them.
func TestAverageMemory(t *testing.T) {
	l := some()
	before := slices.Clone(l)
	pixel.Average(l[:len(l)/2]...)
	pixel.Average(l...)
	if !slices.Equal(l, before) {
		t.Errorf("got %v, want %v", l, before)
	}
}

// P8.5: packed pixels by hand; those of pixels that are not valid are those of Clamp.
func TestPack(t *testing.T) {
	for _, x := range []struct {
		p    api.Pixel
		want uint32
	}{
		{px(0, 0, 0, 0), 0},
		{px(0, 0, 0, 1), 0x01000000},
		{px(1, 0, 0, 255), 0xff010000},
		{px(0, 1, 0, 255), 0xff000100},
		{px(0, 0, 1, 255), 0xff000001},
		{px(0x11, 0x22, 0x33, 0x44), 0x44112233},
		{px(255, 255, 255, 255), 0xffffffff},
		{px(0x80, 0x11, 0x7f, 0x7f), 0x7f7f117f},
		{px(0x11, 0x80, 0x22, 0x7f), 0x7f117f22},
		{px(0x11, 0x22, 0xff, 0x7f), 0x7f11227f},
		{px(255, 255, 255, 0), 0},
	} {
		if got := pixel.Pack(x.p); got != x.want {
			t.Errorf("%v: got %#x, want %#x", x.p, got, x.want)
		}
	}
	for p := range all() {
		if got := pixel.Pack(p); got != packed(limited(p)) {
			t.Fatalf("%v: got %#x, want %#x", p, got, packed(limited(p)))
		}
	}
}

// P8.5: unpacked numbers by hand, those of pixels that are not valid among them.
func TestUnpack(t *testing.T) {
	for _, x := range []struct {
		n    uint32
		want api.Pixel
	}{
		{0, px(0, 0, 0, 0)},
		{0x01000000, px(0, 0, 0, 1)},
		{0xff010203, px(1, 2, 3, 255)},
		{0x44112233, px(0x11, 0x22, 0x33, 0x44)},
		{0xffffffff, px(255, 255, 255, 255)},
		{0x00ffffff, px(0, 0, 0, 0)},
		{0x00000001, px(0, 0, 0, 0)},
		{0x7f80117f, px(0x7f, 0x11, 0x7f, 0x7f)},
		{0x7f118022, px(0x11, 0x7f, 0x22, 0x7f)},
		{0x7f1122ff, px(0x11, 0x22, 0x7f, 0x7f)},
		{0x01ffffff, px(1, 1, 1, 1)},
		{0xfeffffff, px(254, 254, 254, 254)},
		{0x80000000, px(0, 0, 0, 128)},
	} {
		check(t, pixel.Unpack(x.n), x.want, "Unpack", x.n)
	}
	for p := range all() {
		check(t, pixel.Unpack(packed(p)), limited(p), "Unpack", packed(p))
	}
}

// P8.6: Unpack of Pack is the pixel, or what Clamp makes of it; Pack of Unpack is the number if its pixel is valid.
func TestPackInverse(t *testing.T) {
	for p := range all() {
		check(t, pixel.Unpack(pixel.Pack(p)), limited(p), "Unpack of Pack", p)
	}
	random := numbers()
	for range 200000 {
		p := limited(anyPixel(random))
		check(t, pixel.Unpack(pixel.Pack(p)), p, "Unpack of Pack", p)
		if n := packed(p); pixel.Pack(pixel.Unpack(n)) != n {
			t.Errorf("Pack of Unpack of %#x: %#x", n, pixel.Pack(pixel.Unpack(n)))
		}
	}
}

// P8.6: an opaque pixel hides what is below it, the zero pixel changes nothing, and a result is opaque if one of the pixels is.
func TestOverNeutral(t *testing.T) {
	zero := api.Pixel{}
	for p := range all() {
		check(t, pixel.Over(zero, p), limited(p), "Over", zero, p)
		check(t, pixel.Over(p, zero), limited(p), "Over", p, zero)
		for _, q := range []api.Pixel{px(1, 2, 3, 255), px(0, 0, 0, 255), px(255, 255, 255, 255), px(255, 0, 128, 255)} {
			check(t, pixel.Over(q, p), q, "Over", q, p)
			if got := pixel.Over(p, q); got.A != 255 {
				t.Errorf("%v over %v: %v", p, q, got)
			}
		}
	}
}

// Definitions: to all functions but Valid and Clamp, a pixel that is not valid is the same as Clamp of it.
func TestNotValid(t *testing.T) {
	other := px(10, 20, 30, 40)
	for p := range all() {
		q := limited(p)
		if p == q {
			continue
		}
		for _, k := range levels {
			check(t, pixel.Scale(p, k), pixel.Scale(q, k), "Scale", p, k)
		}
		check(t, pixel.Over(p, other), pixel.Over(q, other), "Over", p, other)
		check(t, pixel.Over(other, p), pixel.Over(other, q), "Over", other, p)
		check(t, pixel.Over(p, p), pixel.Over(q, q), "Over", p, p)
		check(t, pixel.Average(p, other, p), pixel.Average(q, other, q), "Average", p, other, p)
		if pixel.Pack(p) != pixel.Pack(q) || pixel.Opaque(p) != pixel.Opaque(q) || pixel.Valid(p) || !pixel.Valid(q) {
			t.Errorf("%v and %v: %#x and %#x", p, q, pixel.Pack(p), pixel.Pack(q))
		}
	}
}

// apart returns the greatest difference of two components.
func apart(p, q api.Pixel) int {
	out := 0
	for i, c := range components(p) {
		out = max(out, int(c)-int(components(q)[i]), int(components(q)[i])-int(c))
	}
	return out
}

// checkAssociative checks P8.7 for three pixels and returns by how much the two ways of blending them differ.
func checkAssociative(t *testing.T, a, b, c api.Pixel) int {
	t.Helper()
	right, left := pixel.Over(a, pixel.Over(b, c)), pixel.Over(pixel.Over(a, b), c)
	exact := a.A == 255 || b.A == 255 || min(a.A, b.A, c.A) == 0 // with an alpha of 0, Clamp returns the zero pixel
	difference := apart(right, left)
	if difference > 2 || exact && difference != 0 {
		t.Errorf("%v over %v over %v: %v and %v", a, b, c, right, left)
	}
	return difference
}

// P8.7: three pixels blended in both orders, among them those that differ by 2, opaque ones and the zero pixel.
func TestAssociative(t *testing.T) {
	if got := checkAssociative(t, px(2, 1, 0, 2), px(41, 41, 41, 64), px(202, 202, 202, 255)); got != 2 {
		t.Errorf("pixels that differ by 2: %d", got)
	}
	for _, a := range some() {
		for _, b := range some() {
			for _, c := range some() {
				checkAssociative(t, a, b, c)
			}
		}
	}
	random := numbers()
	for range 200000 {
		checkAssociative(t, limited(anyPixel(random)), limited(anyPixel(random)), limited(anyPixel(random)))
		checkAssociative(t, anyPixel(random), anyPixel(random), anyPixel(random))
	}
}

// P8.7: all alphas of the two upper pixels, with gray values that are less than or equal to the alpha.
func TestAssociativeAlphas(t *testing.T) {
	for i := range 256 {
		for j := range 256 {
			a, b := uint8(i), uint8(j)
			for _, c := range levels {
				checkAssociative(t, px(a, a/2, 0, a), px(b, b/2, b/3, b), px(c, c-c/3, c/5, c))
			}
		}
	}
}

// R6: results depend only on the arguments, not on earlier calls.
func TestNoState(t *testing.T) {
	l := valid(some())
	first := make([]api.Pixel, 0, len(l))
	for i, p := range l {
		first = append(first, pixel.Average(pixel.Over(p, l[len(l)-1-i]), pixel.Scale(p, uint8(i)), pixel.Unpack(pixel.Pack(p))))
	}
	for i := len(l) - 1; i >= 0; i-- {
		got := pixel.Average(pixel.Over(l[i], l[len(l)-1-i]), pixel.Scale(l[i], uint8(i)), pixel.Unpack(pixel.Pack(l[i])))
		check(t, got, first[i], "the same calls again", l[i])
	}
}

// FuzzPixels compares all functions with their definitions.
func FuzzPixels(f *testing.F) {
	f.Add(uint32(0), uint32(0xffffffff), uint32(0x80808080), uint8(128))
	f.Add(uint32(0x00ffffff), uint32(0x7f80117f), uint32(0x44112233), uint8(255))
	f.Add(uint32(0x02020100), uint32(0x40292929), uint32(0xffcacaca), uint8(0))
	f.Fuzz(func(t *testing.T, m, n, o uint32, k uint8) {
		unclamped := func(n uint32) api.Pixel {
			return px(uint8(n>>16), uint8(n>>8), uint8(n), uint8(n>>24))
		}
		p, q, r := unclamped(m), unclamped(n), unclamped(o)
		if pixel.Valid(p) != premultiplied(p) || pixel.Opaque(p) != (p.A == 255) {
			t.Errorf("%v: valid %v, opaque %v", p, pixel.Valid(p), pixel.Opaque(p))
		}
		check(t, pixel.Clamp(p), limited(p), "Clamp", p)
		check(t, pixel.Premultiply(p.R, p.G, p.B, p.A), px(product(p.R, p.A), product(p.G, p.A), product(p.B, p.A), p.A), "Premultiply", p)
		check(t, pixel.Scale(p, k), scaled(limited(p), k), "Scale", p, k)
		checkOver(t, p, q)
		check(t, pixel.Average(p, q, r), averaged([]api.Pixel{limited(p), limited(q), limited(r)}), "Average", p, q, r)
		if got := pixel.Pack(p); got != packed(limited(p)) {
			t.Errorf("%v: got %#x, want %#x", p, got, packed(limited(p)))
		}
		check(t, pixel.Unpack(m), limited(p), "Unpack", m)
		checkAssociative(t, p, q, r)
	})
}
