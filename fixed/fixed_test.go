package fixed_test

import (
	"math"
	"math/big"
	"math/rand/v2"
	"testing"

	"compositor/api"
	"compositor/fixed"
)

const (
	least    = math.MinInt32 // the least representable number, multiplied by FixedOne
	greatest = math.MaxInt32
	beyond   = 1 << 23 // the least positive integer that is not representable
)

// extremes are integers at and beyond every limit.
var extremes = []int{math.MinInt, math.MinInt + 1, math.MinInt / 256, math.MinInt/256 - 1, -1 << 40, least*256 - 129, least * 256, least - 1, least, least + 1, -2*beyond - 1, -2 * beyond, -beyond - 1, -beyond, -beyond + 1,
	-65536, -513, -512, -511, -257, -256, -255, -129, -128, -127, -3, -2, -1, 0, 1, 2, 3, 127, 128, 129, 255, 256, 257, 511, 512, 513, 65536,
	beyond - 1, beyond, beyond + 1, 2*beyond - 1, 2 * beyond, greatest - 1, greatest, greatest + 1, greatest * 256, 1 << 40, math.MaxInt / 256, math.MaxInt/256 + 1, math.MaxInt - 1, math.MaxInt}

// edges are numbers at the limits of the type, near integers and near halves of them.
var edges = []api.Fixed{least, least + 1, least + 127, least + 128, least + 129, least + 256, -1 << 30, -65537, -65536, -65535, -11585, -4097, -769, -513, -512, -511, -385, -384, -383, -257, -256, -255, -129, -128, -127, -17, -16, -3, -2, -1,
	0, 1, 2, 3, 16, 17, 127, 128, 129, 255, 256, 257, 383, 384, 385, 511, 512, 513, 769, 4096, 11585, 65535, 65536, 65537, 1 << 30, greatest - 256, greatest - 129, greatest - 128, greatest - 127, greatest - 1, greatest}

// numbers returns numbers that are the same in each run of the tests.
func numbers() *rand.Rand {
	return rand.New(rand.NewPCG(6, 6))
}

// anyInt returns an integer with any number of bits.
func anyInt(source *rand.Rand) int {
	return int(source.Uint64()) >> source.IntN(64)
}

// anyFixed returns a number with any number of bits.
func anyFixed(source *rand.Rand) api.Fixed {
	return api.Fixed(int32(source.Uint32()) >> source.IntN(32))
}

// spread calls f for numbers of the full range, with about as many of them in each part of it, and for all edges.
func spread(f func(api.Fixed)) {
	for _, n := range edges {
		f(n)
	}
	for n := int64(least); n <= greatest; n += 30011 {
		f(api.Fixed(n))
	}
}

// integer is short for an integer without limits.
func integer(n int) *big.Int {
	return big.NewInt(int64(n))
}

// ratio returns a / b, multiplied by FixedOne, by the definition: the nearest integer, and of two the one with the greater absolute value.
func ratio(a, b *big.Int) *big.Int {
	twice := new(big.Int).Mul(a, integer(2*api.FixedOne))
	twice.Abs(twice).Add(twice, new(big.Int).Abs(b))
	n := twice.Quo(twice, new(big.Int).Abs(new(big.Int).Lsh(b, 1)))
	if a.Sign()*b.Sign() < 0 {
		n.Neg(n)
	}
	return n
}

// result returns the results of a function that yields n / FixedOne if that is representable.
func result(n *big.Int) (api.Fixed, api.Errno) {
	if n.Cmp(integer(least)) < 0 || n.Cmp(integer(greatest)) > 0 {
		return 0, api.ErrRange
	}
	return api.Fixed(n.Int64()), api.OK
}

// wantRatio returns the results of FromRatio by its definition.
func wantRatio(a, b int) (api.Fixed, api.Errno) {
	if b == 0 {
		return 0, api.ErrArgument
	}
	return result(ratio(integer(a), integer(b)))
}

// wantMul returns the results of Mul by its definition.
func wantMul(a, b api.Fixed) (api.Fixed, api.Errno) {
	return result(ratio(new(big.Int).Mul(integer(int(a)), integer(int(b))), integer(api.FixedOne*api.FixedOne)))
}

// check compares a number and an error with those that are wanted.
func check(t *testing.T, what string, a, b int, got api.Fixed, e api.Errno, want api.Fixed, wantError api.Errno) {
	t.Helper()
	if got != want || e != wantError {
		t.Fatalf("%s of %d and %d: got %d, error %d, want %d, error %d", what, a, b, got, e, want, wantError)
	}
}

// P6.1: FromInt of single integers, the examples of the chapter among them.
func TestFromInt(t *testing.T) {
	for _, x := range []struct {
		n    int
		want api.Fixed
		e    api.Errno
	}{
		{3, 768, api.OK},
		{8388608, 0, api.ErrRange},
		{-8388608, -2147483648, api.OK},
		{0, 0, api.OK},
		{1, 256, api.OK},
		{-1, -256, api.OK},
		{8388607, 2147483392, api.OK},
		{-8388607, -2147483392, api.OK},
		{-8388609, 0, api.ErrRange},
		{1 << 24, 0, api.ErrRange},
		{-1 << 24, 0, api.ErrRange},
		{math.MaxInt32, 0, api.ErrRange},
		{math.MinInt32, 0, api.ErrRange},
		{math.MaxInt, 0, api.ErrRange},
		{math.MinInt, 0, api.ErrRange},
	} {
		got, e := fixed.FromInt(x.n)
		check(t, "FromInt", x.n, 0, got, e, x.want, x.e)
	}
}

// P6.1: FromInt at both limits, for each number of bits and for integers of the full range, some of which wrap to a number if they are multiplied by FixedOne.
func TestFromIntLimits(t *testing.T) {
	test := func(n int) {
		want, wantError := api.Fixed(0), api.ErrRange
		if n >= -beyond && n < beyond {
			want, wantError = api.Fixed(n*api.FixedOne), api.OK
		}
		got, e := fixed.FromInt(n)
		check(t, "FromInt", n, 0, got, e, want, wantError)
	}
	for n := range 600 {
		test(n - 300)
		test(beyond + n - 300)
		test(-beyond + n - 300)
	}
	for bit := range 64 {
		for n := -3; n <= 3; n++ {
			test(1<<bit + n)
			test(-1<<bit + n)
		}
	}
	source := numbers()
	for range 20000 {
		test(anyInt(source))
	}
}

// P6.1: FromRatio of single pairs, the examples of the chapter among them.
func TestFromRatio(t *testing.T) {
	for _, x := range []struct {
		a, b int
		want api.Fixed
		e    api.Errno
	}{
		{1, 3, 85, api.OK},
		{1, 512, 1, api.OK},
		{-1, 512, -1, api.OK},
		{1, 0, 0, api.ErrArgument},
		{1, -512, -1, api.OK},
		{-1, -512, 1, api.OK},
		{1, 513, 0, api.OK},
		{-1, 513, 0, api.OK},
		{1, 511, 1, api.OK},
		{-1, 511, -1, api.OK},
		{3, 512, 2, api.OK},
		{-3, 512, -2, api.OK},
		{5, 512, 3, api.OK},
		{2, 3, 171, api.OK},
		{-2, 3, -171, api.OK},
		{2, -3, -171, api.OK},
		{-2, -3, 171, api.OK},
		{7, 2, 896, api.OK},
		{-7, 2, -896, api.OK},
		{0, 1, 0, api.OK},
		{0, -7, 0, api.OK},
		{0, math.MaxInt, 0, api.OK},
		{0, math.MinInt, 0, api.OK},
		{0, 0, 0, api.ErrArgument},
		{math.MaxInt, 0, 0, api.ErrArgument},
		{math.MinInt, 0, 0, api.ErrArgument},
		{math.MaxInt, math.MaxInt, 256, api.OK},
		{math.MinInt, math.MinInt, 256, api.OK},
		{math.MaxInt, math.MinInt, -256, api.OK},
		{math.MinInt, math.MaxInt, -256, api.OK},
		{math.MinInt, -1, 0, api.ErrRange},
		{math.MinInt, 1, 0, api.ErrRange},
		{math.MaxInt, 1, 0, api.ErrRange},
		{1, math.MaxInt, 0, api.OK},
		{1, math.MinInt, 0, api.OK},
		{math.MinInt, 1 << 40, least, api.OK},
		{math.MinInt, -1 << 40, 0, api.ErrRange},
		{math.MaxInt, 1 << 40, 0, api.ErrRange},
		{math.MaxInt, -1 << 40, least, api.OK},
	} {
		got, e := fixed.FromRatio(x.a, x.b)
		check(t, "FromRatio", x.a, x.b, got, e, x.want, x.e)
	}
}

// P6.1: ratios next to both limits: the rounded value decides, and half of 1 / FixedOne is rounded away from zero.
func TestFromRatioLimits(t *testing.T) {
	for _, x := range []struct {
		a, b int
		want api.Fixed
		e    api.Errno
	}{
		{greatest, 256, greatest, api.OK},
		{greatest + 1, 256, 0, api.ErrRange},
		{least, 256, least, api.OK},
		{least - 1, 256, 0, api.ErrRange},
		{2*greatest + 1, 512, 0, api.ErrRange},
		{2*greatest - 1, 512, greatest, api.OK},
		{2*least - 1, 512, 0, api.ErrRange},
		{2*least + 1, 512, least, api.OK},
		{1000*greatest + 499, 256000, greatest, api.OK},
		{1000*greatest + 500, 256000, 0, api.ErrRange},
		{1000*least - 499, 256000, least, api.OK},
		{1000*least - 500, 256000, 0, api.ErrRange},
		{1000*greatest - 500, 256000, greatest, api.OK},
		{1000*greatest - 501, 256000, greatest - 1, api.OK},
		{1000*least + 500, 256000, least, api.OK},
		{1000*least + 501, 256000, least + 1, api.OK},
	} {
		got, e := fixed.FromRatio(x.a, x.b)
		check(t, "FromRatio", x.a, x.b, got, e, x.want, x.e)
		got, e = fixed.FromRatio(-x.a, -x.b)
		check(t, "FromRatio", -x.a, -x.b, got, e, x.want, x.e)
	}
}

// P6.1: FromRatio of all small pairs, of pairs at the limits, and of many pairs of the full range.
func TestFromRatioMany(t *testing.T) {
	test := func(a, b int) {
		want, wantError := wantRatio(a, b)
		got, e := fixed.FromRatio(a, b)
		check(t, "FromRatio", a, b, got, e, want, wantError)
	}
	for a := -40; a <= 40; a++ {
		for b := -1100; b <= 1100; b++ {
			test(a, b)
		}
	}
	for _, a := range extremes {
		for _, b := range extremes {
			test(a, b)
		}
	}
	source := numbers()
	for range 100000 {
		test(anyInt(source), anyInt(source))
	}
}

// P6.1: quotients half way between two numbers and next to them, with divisors of any number of bits.
func TestFromRatioHalves(t *testing.T) {
	source := numbers()
	test := func(a, b int, want api.Fixed) {
		got, e := fixed.FromRatio(a, b)
		check(t, "FromRatio", a, b, got, e, want, api.OK)
	}
	for range 20000 {
		m, k := 2+source.IntN(1<<53)>>source.IntN(53), source.IntN(200)
		a, b := m*(2*k+1), m*512 // a / b is k and a half, divided by FixedOne
		for less := -1; less <= 1; less++ {
			want := api.Fixed(k + 1)
			if less == 1 {
				want = api.Fixed(k)
			}
			test(a-less, b, want)
			test(less-a, b, -want)
			test(a-less, -b, -want)
			test(less-a, -b, want)
		}
	}
}

// P6.2: Floor and Round of single numbers, the examples of the chapter among them.
func TestFloorAndRound(t *testing.T) {
	for _, x := range []struct {
		f            api.Fixed
		floor, round int
	}{
		{-1, -1, 0},
		{128, 0, 1},
		{-128, -1, 0},
		{0, 0, 0},
		{1, 0, 0},
		{127, 0, 0},
		{129, 0, 1},
		{255, 0, 1},
		{256, 1, 1},
		{257, 1, 1},
		{383, 1, 1},
		{384, 1, 2},
		{385, 1, 2},
		{-127, -1, 0},
		{-129, -1, -1},
		{-255, -1, -1},
		{-256, -1, -1},
		{-257, -2, -1},
		{-383, -2, -1},
		{-384, -2, -1},
		{-385, -2, -2},
		{-512, -2, -2},
		{greatest, 8388607, 8388608},
		{greatest - 127, 8388607, 8388608},
		{greatest - 128, 8388607, 8388607},
		{greatest - 255, 8388607, 8388607},
		{greatest - 256, 8388606, 8388607},
		{least, -8388608, -8388608},
		{least + 127, -8388608, -8388608},
		{least + 128, -8388608, -8388607},
		{least + 256, -8388607, -8388607},
	} {
		if floor, round := fixed.Floor(x.f), fixed.Round(x.f); floor != x.floor || round != x.round {
			t.Errorf("%d: got %d, %d, want %d, %d", x.f, floor, round, x.floor, x.round)
		}
	}
}

// P6.2 and P6.6: Floor and Round by their definitions: a value differs from its Floor by less than 1 and from its Round by at most one half, and not by minus one half.
func TestFloorAndRoundMany(t *testing.T) {
	test := func(f api.Fixed) {
		above := int(f) - fixed.Floor(f)*api.FixedOne
		if above < 0 || above >= api.FixedOne {
			t.Fatalf("Floor(%d) is %d", f, fixed.Floor(f))
		}
		if above = int(f) - fixed.Round(f)*api.FixedOne; above < -api.FixedOne/2 || above >= api.FixedOne/2 {
			t.Fatalf("Round(%d) is %d", f, fixed.Round(f))
		}
	}
	spread(test)
	for n := range 2000 {
		test(api.Fixed(n - 1000))
		test(api.Fixed(least + n))
		test(api.Fixed(greatest - n))
	}
}

// P6.3: Add of single pairs.
func TestAdd(t *testing.T) {
	for _, x := range []struct {
		a, b, want api.Fixed
		e          api.Errno
	}{
		{0, 0, 0, api.OK},
		{384, 128, 512, api.OK},
		{384, -128, 256, api.OK},
		{-1, 1, 0, api.OK},
		{-1, -1, -2, api.OK},
		{greatest, 0, greatest, api.OK},
		{greatest, 1, 0, api.ErrRange},
		{greatest, greatest, 0, api.ErrRange},
		{greatest - 1, 1, greatest, api.OK},
		{1 << 30, 1 << 30, 0, api.ErrRange},
		{1 << 30, 1<<30 - 1, greatest, api.OK},
		{least, 0, least, api.OK},
		{least, -1, 0, api.ErrRange},
		{least, least, 0, api.ErrRange},
		{least + 1, -1, least, api.OK},
		{-1 << 30, -1 << 30, least, api.OK},
		{-1 << 30, -1<<30 - 1, 0, api.ErrRange},
		{least, greatest, -1, api.OK},
	} {
		got, e := fixed.Add(x.a, x.b)
		check(t, "Add", int(x.a), int(x.b), got, e, x.want, x.e)
		got, e = fixed.Add(x.b, x.a)
		check(t, "Add", int(x.b), int(x.a), got, e, x.want, x.e)
	}
}

// P6.3: Mul of single pairs: products half way between two numbers, and at the limits.
func TestMul(t *testing.T) {
	for _, x := range []struct {
		a, b, want api.Fixed
		e          api.Errno
	}{
		{0, 0, 0, api.OK},
		{0, least, 0, api.OK},
		{256, 256, 256, api.OK},
		{384, 384, 576, api.OK},
		{384, -384, -576, api.OK},
		{-384, -384, 576, api.OK},
		{1, 128, 1, api.OK},
		{1, 127, 0, api.OK},
		{1, 129, 1, api.OK},
		{-1, 128, -1, api.OK},
		{-1, 127, 0, api.OK},
		{-1, -128, 1, api.OK},
		{3, 128, 2, api.OK},
		{3, 127, 1, api.OK},
		{-3, 128, -2, api.OK},
		{5, 128, 3, api.OK},
		{-5, 128, -3, api.OK},
		{1, 1, 0, api.OK},
		{16, 8, 1, api.OK},
		{16, 7, 0, api.OK},
		{greatest, 256, greatest, api.OK},
		{greatest, -256, -greatest, api.OK},
		{greatest, 257, 0, api.ErrRange},
		{greatest, 128, 1 << 30, api.OK},
		{greatest, greatest, 0, api.ErrRange},
		{greatest, least, 0, api.ErrRange},
		{least, least, 0, api.ErrRange},
		{least, 256, least, api.OK},
		{least, -256, 0, api.ErrRange},
		{least, -255, 2139095040, api.OK},
		{least, 257, 0, api.ErrRange},
		{1 << 30, 512, 0, api.ErrRange},
		{1 << 30, -512, least, api.OK},
		{1<<30 - 1, 512, greatest - 1, api.OK},
		{8321, 66068479, greatest, api.OK}, // 127 more than greatest * 256
		{8321, -66068479, -greatest, api.OK},
		{699040, 786444, 0, api.ErrRange}, // 128 more
		{699040, -786444, least, api.OK},
		{464773, 1182848, greatest, api.OK}, // 128 less
		{464773, -1182848, -greatest, api.OK},
		{148289, 3707327, greatest - 1, api.OK}, // 129 less
		{148289, -3707327, 1 - greatest, api.OK},
		{740367, 742545, 0, api.ErrRange}, // 127 more than -least * 256
		{740367, -742545, least, api.OK},
		{82048, 6700417, 0, api.ErrRange}, // 128 more
		{82048, -6700417, 0, api.ErrRange},
	} {
		got, e := fixed.Mul(x.a, x.b)
		check(t, "Mul", int(x.a), int(x.b), got, e, x.want, x.e)
		got, e = fixed.Mul(x.b, x.a)
		check(t, "Mul", int(x.b), int(x.a), got, e, x.want, x.e)
	}
}

// P6.3: Div of single pairs: quotients half way between two numbers, at the limits, and divisors that are 0.
func TestDiv(t *testing.T) {
	for _, x := range []struct {
		a, b, want api.Fixed
		e          api.Errno
	}{
		{0, 256, 0, api.OK},
		{0, least, 0, api.OK},
		{256, 768, 85, api.OK},
		{512, 768, 171, api.OK},
		{-512, 768, -171, api.OK},
		{512, -768, -171, api.OK},
		{-512, -768, 171, api.OK},
		{576, 384, 384, api.OK},
		{1, 512, 1, api.OK},
		{-1, 512, -1, api.OK},
		{1, -512, -1, api.OK},
		{-1, -512, 1, api.OK},
		{1, 511, 1, api.OK},
		{1, 513, 0, api.OK},
		{-1, 513, 0, api.OK},
		{3, 512, 2, api.OK},
		{-3, 512, -2, api.OK},
		{1, greatest, 0, api.OK},
		{1, least, 0, api.OK},
		{greatest, greatest, 256, api.OK},
		{least, least, 256, api.OK},
		{greatest, least, -256, api.OK},
		{least, greatest, -256, api.OK},
		{greatest, 256, greatest, api.OK},
		{greatest, -256, -greatest, api.OK},
		{greatest, 255, 0, api.ErrRange},
		{greatest, 1, 0, api.ErrRange},
		{greatest, -1, 0, api.ErrRange},
		{least, 256, least, api.OK},
		{least, -256, 0, api.ErrRange},
		{least, 255, 0, api.ErrRange},
		{least, 1, 0, api.ErrRange},
		{least, -1, 0, api.ErrRange},
		{1 << 23, 1, 0, api.ErrRange},
		{-1 << 23, 1, least, api.OK},
		{1 << 23, -1, least, api.OK},
		{1<<23 - 1, 1, greatest - 255, api.OK},
		{0, 0, 0, api.ErrArgument},
		{1, 0, 0, api.ErrArgument},
		{-256, 0, 0, api.ErrArgument},
		{greatest, 0, 0, api.ErrArgument},
		{least, 0, 0, api.ErrArgument},
	} {
		got, e := fixed.Div(x.a, x.b)
		check(t, "Div", int(x.a), int(x.b), got, e, x.want, x.e)
	}
}

// P6.3: quotients whose rounded value is at a limit or beyond it.
func TestDivLimits(t *testing.T) {
	for b := api.Fixed(1); b < 256; b++ {
		for _, limit := range []int{least, greatest} {
			middle := limit * int(b) / 256
			for a := middle - 3; a <= middle+3; a++ {
				want, wantError := wantRatio(a, int(b))
				got, e := fixed.Div(api.Fixed(a), b)
				check(t, "Div", a, int(b), got, e, want, wantError)
				want, wantError = wantRatio(a, -int(b))
				got, e = fixed.Div(api.Fixed(a), -b)
				check(t, "Div", a, -int(b), got, e, want, wantError)
			}
		}
	}
}

// checkOperations compares Add, Mul and Div with their definitions, and their results in both orders.
func checkOperations(t *testing.T, a, b api.Fixed) {
	t.Helper()
	want, wantError := result(integer(int(a) + int(b)))
	got, e := fixed.Add(a, b)
	check(t, "Add", int(a), int(b), got, e, want, wantError)
	got, e = fixed.Add(b, a)
	check(t, "Add", int(b), int(a), got, e, want, wantError)
	want, wantError = wantMul(a, b)
	got, e = fixed.Mul(a, b)
	check(t, "Mul", int(a), int(b), got, e, want, wantError)
	got, e = fixed.Mul(b, a)
	check(t, "Mul", int(b), int(a), got, e, want, wantError)
	want, wantError = wantRatio(int(a), int(b))
	got, e = fixed.Div(a, b)
	check(t, "Div", int(a), int(b), got, e, want, wantError)
}

// P6.3 and P6.6: Add, Mul and Div of all small numbers, of those at the limits, and of many of the full range; Add and Mul are commutative.
func TestOperations(t *testing.T) {
	for a := api.Fixed(-300); a <= 300; a++ {
		for b := api.Fixed(-300); b <= 300; b += 1 + a&1 {
			checkOperations(t, a, b)
		}
	}
	for _, a := range edges {
		for _, b := range edges {
			checkOperations(t, a, b)
		}
	}
	source := numbers()
	for range 100000 {
		checkOperations(t, anyFixed(source), anyFixed(source))
	}
}

// P6.6: FixedOne is neutral for Mul and Div, and the number 0 for Add.
func TestNeutral(t *testing.T) {
	spread(func(f api.Fixed) {
		got, e := fixed.Mul(f, api.FixedOne)
		check(t, "Mul", int(f), api.FixedOne, got, e, f, api.OK)
		got, e = fixed.Mul(api.FixedOne, f)
		check(t, "Mul", api.FixedOne, int(f), got, e, f, api.OK)
		got, e = fixed.Div(f, api.FixedOne)
		check(t, "Div", int(f), api.FixedOne, got, e, f, api.OK)
		got, e = fixed.Add(f, 0)
		check(t, "Add", int(f), 0, got, e, f, api.OK)
	})
}

// P6.1 and P6.2: FromInt has no fraction, so that Floor and Round invert it, and it is FromRatio by 1.
func TestIntegers(t *testing.T) {
	for n := -beyond; n < beyond; n += 97 {
		f, e := fixed.FromInt(n)
		if e != api.OK || fixed.Floor(f) != n || fixed.Round(f) != n {
			t.Fatalf("%d: got %d, error %d, with the Floor %d and the Round %d", n, f, e, fixed.Floor(f), fixed.Round(f))
		}
		got, e := fixed.FromRatio(n, 1)
		check(t, "FromRatio", n, 1, got, e, f, api.OK)
	}
}

// FuzzNumbers compares all functions of numbers with their definitions.
func FuzzNumbers(f *testing.F) {
	f.Add(1, 3)
	f.Add(-1, 512)
	f.Add(8388608, 0)
	f.Add(math.MinInt, math.MinInt)
	f.Add(greatest, least)
	f.Fuzz(func(t *testing.T, a, b int) {
		want, wantError := wantRatio(a, b)
		got, e := fixed.FromRatio(a, b)
		check(t, "FromRatio", a, b, got, e, want, wantError)
		want, wantError = wantRatio(a, 1)
		got, e = fixed.FromInt(a)
		check(t, "FromInt", a, 1, got, e, want, wantError)
		checkOperations(t, api.Fixed(a), api.Fixed(b))
		n := api.Fixed(a)
		if over := int(n) - fixed.Floor(n)*api.FixedOne; over < 0 || over > 255 {
			t.Errorf("Floor(%d) is %d", n, fixed.Floor(n))
		}
		if over := int(n) - fixed.Round(n)*api.FixedOne; over < -128 || over > 127 {
			t.Errorf("Round(%d) is %d", n, fixed.Round(n))
		}
	})
}
