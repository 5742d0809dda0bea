package fixed_test

import (
	"math/big"
	"regexp"
	"strings"
	"testing"

	"compositor/api"
	"compositor/fixed"
)

// form is the form of a number, without the exception of -0.
var form = regexp.MustCompile(`^-?(0|[1-9][0-9]*)(\.[0-9]{0,7}[1-9])?$`)

// wantParse returns the results of Parse by its definition.
func wantParse(s string) (api.Fixed, api.Errno) {
	if !form.MatchString(s) || s == "-0" || strings.HasSuffix(s, "\n") {
		return 0, api.ErrSyntax
	}
	value, ok := new(big.Rat).SetString(s)
	if !ok {
		panic("the form allows what is not a number: " + s)
	}
	value.Mul(value, new(big.Rat).SetInt64(api.FixedOne))
	if !value.IsInt() {
		return 0, api.ErrSyntax
	}
	return result(value.Num())
}

// wantFormat returns the text of a number by its definition.
func wantFormat(f api.Fixed) string {
	s := big.NewRat(int64(f), api.FixedOne).FloatString(8)
	return strings.TrimSuffix(strings.TrimRight(s, "0"), ".")
}

// checkParse compares Parse with its definition.
func checkParse(t *testing.T, s string) {
	t.Helper()
	want, wantError := wantParse(s)
	if got, e := fixed.Parse(s); got != want || e != wantError {
		t.Fatalf("Parse(%.40q): got %d, error %d, want %d, error %d", s, got, e, want, wantError)
	}
}

// checkText compares the text of a number with its definition and parses it.
func checkText(t *testing.T, f api.Fixed) {
	t.Helper()
	s := fixed.Format(f)
	if s != wantFormat(f) {
		t.Fatalf("Format(%d): got %s, want %s", f, s, wantFormat(f))
	}
	if got, e := fixed.Parse(s); got != f || e != api.OK {
		t.Fatalf("Parse(%s): got %d, error %d, want %d", s, got, e, f)
	}
}

// P6.4: texts of single numbers, the examples of the chapter among them, which Parse inverts.
func TestFormat(t *testing.T) {
	for _, x := range []struct {
		f    api.Fixed
		want string
	}{
		{384, "1.5"},
		{-1, "-0.00390625"},
		{0, "0"},
		{1, "0.00390625"},
		{2, "0.0078125"},
		{16, "0.0625"},
		{25, "0.09765625"},
		{26, "0.1015625"},
		{64, "0.25"},
		{128, "0.5"},
		{-128, "-0.5"},
		{192, "0.75"},
		{255, "0.99609375"},
		{-255, "-0.99609375"},
		{256, "1"},
		{-256, "-1"},
		{257, "1.00390625"},
		{-257, "-1.00390625"},
		{-384, "-1.5"},
		{2560, "10"},
		{25600, "100"},
		{-25600, "-100"},
		{25601, "100.00390625"},
		{2688, "10.5"},
		{greatest, "8388607.99609375"},
		{greatest - 255, "8388607"},
		{least, "-8388608"},
		{least + 1, "-8388607.99609375"},
		{least + 256, "-8388607"},
	} {
		if got := fixed.Format(x.f); got != x.want {
			t.Errorf("Format(%d): got %s, want %s", x.f, got, x.want)
		}
		if got, e := fixed.Parse(x.want); got != x.f || e != api.OK {
			t.Errorf("Parse(%s): got %d, error %d, want %d", x.want, got, e, x.f)
		}
	}
}

// P6.4 and P6.5: all fractions, and numbers of the full range: Parse inverts Format.
func TestFormatMany(t *testing.T) {
	for n := range 3000 {
		checkText(t, api.Fixed(n))
		checkText(t, api.Fixed(-n))
		checkText(t, api.Fixed(greatest-n))
		checkText(t, api.Fixed(least+n))
	}
	spread(func(f api.Fixed) { checkText(t, f) })
}

// P6.4: texts that do not have the form of a number, or whose fraction is not a multiple of 1 / FixedOne; those of the chapter come first.
func TestParseSyntax(t *testing.T) {
	for _, s := range []string{
		"0.1", "01", "1.50", "-0",
		"", "-", "--1", "-+1", "+1", "+0", "+0.5", "1-", "1-1", "- 1", " 1", "1 ", "1\n", "\n1", "1\x00", "\x001", "\t1", "-1 ",
		"00", "-00", "-01", "007", "00.5", "-00.5", "01.5", "-01.5",
		".", "-.", ".5", "-.5", "1.", "-1.", "0.", "-0.", "1..5", "1.5.", "1.5.5", ".1.", "1.-5", "1.+5", "1. 5", "1 .5", "1.5 ",
		"0.0", "-0.0", "1.0", "-1.0", "0.00000000", "0.50", "0.500", "0.50000000", "0.003906250", "1.00", "8388607.0", "8388608.0",
		"0.2", "0.3", "0.4", "0.6", "0.7", "0.9", "0.01", "0.05", "0.15", "0.24", "0.26", "0.51", "0.495", "0.505", "0.001", "0.00000001", "0.00390624", "0.00390626", "0.99609374", "0.99609376", "0.99999999", "-0.00000001", "-0.1", "1.1", "-1.1",
		"0.001953125", "0.498046875", "0.000000001", "0.500000001", "0.0000000001", "0.5000000000000000000001", "0.125000000",
		"1e3", "1E3", "0x10", "0b1", "0o7", "1_000", "1,5", "1,000", "1'000", "1f", "a", "e", "5x", "x5", "0.x", "0.5x", "x.5", "1.5e1", "0.5_5", "inf", "Inf", "-inf", "NaN", "nan", "1/2", "½", "１", "٣", "0.５", "1·5", "−1", "1.５", "\xff", "1\xff", "1.\xff", "1.5\xff", "\ufeff1", "0\u0300",
	} {
		if got, e := fixed.Parse(s); got != 0 || e != api.ErrSyntax {
			t.Errorf("Parse(%q): got %d, error %d", s, got, e)
		}
		checkParse(t, s)
	}
}

// P6.4: numbers that are not representable; their form and their fraction are looked at first.
func TestParseRange(t *testing.T) {
	zeros, nines := strings.Repeat("0", 100000), strings.Repeat("9", 100000)
	for _, x := range []struct {
		s string
		e api.Errno
	}{
		{"8388608", api.ErrRange},
		{"8388608.5", api.ErrRange},
		{"8388608.00390625", api.ErrRange},
		{"-8388608.00390625", api.ErrRange},
		{"-8388608.99609375", api.ErrRange},
		{"-8388609", api.ErrRange},
		{"8388609", api.ErrRange},
		{"10000000", api.ErrRange},
		{"16777216", api.ErrRange},
		{"99999999", api.ErrRange},
		{"100000000", api.ErrRange},
		{"100000000.5", api.ErrRange},
		{"100000001", api.ErrRange},
		{"999999999", api.ErrRange},
		{"4294967296", api.ErrRange},
		{"-4294967296", api.ErrRange},
		{"1099511627776", api.ErrRange},
		{"9223372036854775807", api.ErrRange},
		{"9223372036854775808", api.ErrRange},
		{"-9223372036854775808", api.ErrRange},
		{"18446744073709551616", api.ErrRange},
		{"18446744073709551617.5", api.ErrRange},
		{"-18446744073709551616", api.ErrRange},
		{"340282366920938463463374607431768211456", api.ErrRange},
		{"1" + zeros, api.ErrRange},
		{"-1" + zeros, api.ErrRange},
		{nines, api.ErrRange},
		{nines + ".99609375", api.ErrRange},
		{"8388608.1", api.ErrSyntax},
		{"-8388608.1", api.ErrSyntax},
		{"8388608.", api.ErrSyntax},
		{"08388608", api.ErrSyntax},
		{"8388608x", api.ErrSyntax},
		{"18446744073709551616.1", api.ErrSyntax},
		{"18446744073709551616.50", api.ErrSyntax},
		{nines + ".1", api.ErrSyntax},
		{nines + "x", api.ErrSyntax},
		{nines + ".", api.ErrSyntax},
		{"--" + nines, api.ErrSyntax},
		{zeros, api.ErrSyntax},
		{zeros + "1", api.ErrSyntax},
		{"0." + zeros, api.ErrSyntax},
		{"0." + zeros + "1", api.ErrSyntax},
		{"0.5" + zeros, api.ErrSyntax},
		{"0." + nines, api.ErrSyntax},
	} {
		if got, e := fixed.Parse(x.s); got != 0 || e != x.e {
			t.Errorf("Parse(%.40q): got %d, error %d, want error %d", x.s, got, e, x.e)
		}
	}
}

// P6.4 and P6.5: all short texts of some characters: Parse accepts those with the form of a number, and Format inverts it.
func TestParseEveryText(t *testing.T) {
	var test func(s string, more int)
	test = func(s string, more int) {
		checkParse(t, s)
		if f, e := fixed.Parse(s); e == api.OK && fixed.Format(f) != s {
			t.Fatalf("Format(%d): got %s, want %s", f, fixed.Format(f), s)
		}
		if more == 0 {
			return
		}
		for _, c := range "-.0125+ " {
			test(s+string(c), more-1)
		}
	}
	test("", 6)
}

// P6.4: each byte before a number, behind it, and in the place of each of its characters.
func TestParseEveryByte(t *testing.T) {
	for c := range 256 {
		for _, s := range []string{"0", "-1", "10", "1.5", "-0.25", "8388607.99609375"} {
			for i := range len(s) + 1 {
				checkParse(t, s[:i]+string([]byte{byte(c)})+s[i:])
				if i < len(s) {
					checkParse(t, s[:i]+string([]byte{byte(c)})+s[i+1:])
				}
			}
		}
	}
}

// P6.4: all fractions with the digits of multiples of 1 / FixedOne, shortened, and with a last digit that is one more or less.
func TestParseFractions(t *testing.T) {
	for n := range api.FixedOne {
		digits := strings.Split(big.NewRat(int64(n), api.FixedOne).FloatString(8), ".")[1]
		for length := range len(digits) + 1 {
			for _, whole := range []string{"0.", "-0.", "7.", "-12.", "8388607.", "8388608.", "-8388608.", "-8388609."} {
				checkParse(t, whole+digits[:length])
				checkParse(t, whole+digits[:length]+"0")
				checkParse(t, whole+digits[:length]+"5")
				checkParse(t, whole+digits[:length]+"1")
				checkParse(t, whole+digits[:length]+"9")
			}
		}
	}
}

// P6.4 and P6.5: whole numbers at each number of bits and digits.
func TestParseWhole(t *testing.T) {
	for bit := range 200 {
		for _, base := range []int64{2, 10} {
			power := new(big.Int).Exp(big.NewInt(base), integer(bit), nil)
			for n := -2; n <= 2; n++ {
				s := new(big.Int).Add(power, integer(n)).String()
				checkParse(t, s)
				checkParse(t, "-"+s)
				checkParse(t, s+".5")
				checkParse(t, "-"+s+".99609375")
			}
		}
	}
}

// FuzzText compares Format and Parse with their definitions.
func FuzzText(f *testing.F) {
	for _, s := range []string{"0", "-0", "-0.00390625", "1.50", "01", "0.1", "8388608", "-8388608", "8388607.99609375", "", "-", ".5"} {
		f.Add(s, int32(384))
	}
	f.Fuzz(func(t *testing.T, s string, n int32) {
		if len(s) < 1000 {
			checkParse(t, s)
		}
		if got, e := fixed.Parse(s); e == api.OK && fixed.Format(got) != s {
			t.Errorf("Format(%d): got %s, want %s", got, fixed.Format(got), s)
		}
		checkText(t, api.Fixed(n))
	})
}
