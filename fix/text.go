package fix

import (
	"strconv"

	"hibernacle/api"
)

const (
	leastBase    = 2
	greatestBase = 16
	smallDigits  = "0123456789abcdef"
	greatDigits  = "0123456789ABCDEF"
)

// Text is a number's text.
func Text(a, base int) string {
	if !mayBase(base) {
		return ""
	}
	return strconv.FormatInt(int64(a), base)
}

// Parse is the number of a text.
func Parse(s string, base int) (int, api.Errno) {
	if !mayBase(base) {
		return 0, api.ErrArg
	}
	sign, digits := cutSign(s)
	if digits == "" {
		return 0, api.ErrForm
	}
	number, fits := 0, true
	for i := range len(digits) {
		digit := digitOf(digits[i], base)
		if digit < 0 {
			return 0, api.ErrForm
		}
		// All digits are looked at, because a wrong one counts first.
		if fits {
			number, fits = setBehind(number, base, sign*digit)
		}
	}
	if !fits {
		return 0, api.ErrRange
	}
	return number, api.OK
}

func mayBase(base int) bool {
	return leastBase <= base && base <= greatestBase
}

// cutSign parts a text into its sign, 1 or -1, and what is behind it.
func cutSign(s string) (int, string) {
	switch {
	case s == "":
		return 1, s
	case s[0] == '-':
		return -1, s[1:]
	case s[0] == '+':
		return 1, s[1:]
	}
	return 1, s
}

// digitOf is what a digit's byte stands for, -1 of one that is no digit.
func digitOf(c byte, base int) int {
	for digit := range base {
		if c == smallDigits[digit] || c == greatDigits[digit] {
			return digit
		}
	}
	return -1
}

// setBehind sets one more digit behind a number. The digit has the number's
// sign, so that -2^63 is come to without its number above 0.
func setBehind(number, base, digit int) (int, bool) {
	moved, ok := Mul(number, base)
	if !ok {
		return 0, false
	}
	return Add(moved, digit)
}
