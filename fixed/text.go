package fixed

import (
	"strconv"
	"strings"

	"compositor/api"
)

const (
	places   = 8           // decimal places of a fraction
	decimals = 100_000_000 // 10 to the power of places
	step     = decimals / api.FixedOne
)

// Format returns the text of f: its decimal digits, with as many behind the point as it needs.
func Format(f api.Fixed) string {
	n := magnitude(int64(f))
	text := strconv.FormatUint(n/api.FixedOne, 10)
	if f < 0 {
		text = "-" + text
	}
	if fraction := n % api.FixedOne; fraction != 0 {
		digits := strconv.FormatUint(decimals+fraction*step, 10)[1:] // the sum has all leading zeros of the fraction behind a 1
		text += "." + strings.TrimRight(digits, "0")
	}
	return text
}

// Parse returns the number with the text s; ErrSyntax if s is not the text of a multiple of 1 / FixedOne, or ErrRange if that is not representable.
func Parse(s string) (api.Fixed, api.Errno) {
	digits, negative := strings.CutPrefix(s, "-")
	whole, fraction, point := strings.Cut(digits, ".")
	if s == "-0" || !isWhole(whole) || point && !isFraction(fraction) {
		return 0, api.ErrSyntax
	}
	part := number(fraction + strings.Repeat("0", places-len(fraction)))
	if part%step != 0 {
		return 0, api.ErrSyntax
	}
	n := number(whole)*decimals + part
	if negative {
		n = -n
	}
	return checked(operands{n, decimals}.quotient)
}

// isWhole reports whether s consists of decimal digits that are 0 or do not begin with 0.
func isWhole(s string) bool {
	return isDigits(s) && (s == "0" || s[0] != '0')
}

// isFraction reports whether s consists of 1 to 8 decimal digits, the last of which is not 0.
func isFraction(s string) bool {
	return isDigits(s) && len(s) <= places && s[len(s)-1] != '0'
}

// isDigits reports whether s consists of one or more decimal digits.
func isDigits(s string) bool {
	for i := range len(s) {
		if s[i] < '0' || s[i] > '9' {
			return false
		}
	}
	return s != ""
}

// number returns the number with these decimal digits, or the integer decimals, which is not representable, if it is greater than that.
func number(digits string) int64 {
	var n int64
	for i := range len(digits) {
		n = min(n*10+int64(digits[i]-'0'), decimals)
	}
	return n
}
