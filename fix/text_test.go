package fix_test

import (
	"math/big"
	"strings"
	"testing"

	"hibernacle/api"
	"hibernacle/fix"
)

// 1.3: texts to all bases, as they are told by numbers without a limit.
func TestText(t *testing.T) {
	for _, a := range append(edges(), mixed(2000)...) {
		for base := 2; base <= 16; base++ {
			if got, want := fix.Text(a, base), large(a).Text(base); got != want {
				t.Fatalf("Text(%d, %d): %q, asked for %q", a, base, got, want)
			}
		}
	}
}

// 1.3: the edges of texts, by hand.
func TestEdgesOfText(t *testing.T) {
	rows := []struct {
		a, base int
		want    string
	}{
		{0, 2, "0"},
		{0, 16, "0"},
		{-255, 16, "-ff"},
		{255, 16, "ff"},
		{10, 11, "a"},
		{-5, 2, "-101"},
		{greatest, 16, "7fffffffffffffff"},
		{least, 16, "-8000000000000000"},
		{least, 10, "-9223372036854775808"},
		{least, 2, "-1" + strings.Repeat("0", 63)},
	}
	for _, r := range rows {
		if got := fix.Text(r.a, r.base); got != r.want {
			t.Errorf("Text(%d, %d): %q, asked for %q", r.a, r.base, got, r.want)
		}
	}
}

// 1.3: bases outside 2 to 16; they are told ahead of all else.
func TestWrongBases(t *testing.T) {
	for _, base := range []int{least, -16, -10, -2, -1, 0, 1, 17, 32, 36, 37, 256, greatest} {
		if got := fix.Text(10, base); got != "" {
			t.Errorf("Text to the base %d: %q", base, got)
		}
		for _, s := range []string{"0", "1", "", "-", "?", strings.Repeat("1", 99)} {
			if n, e := fix.Parse(s, base); n != 0 || e != api.ErrArg {
				t.Errorf("Parse(%q, %d): %d %d", s, base, n, e)
			}
		}
	}
}

// 1.3: texts that are parsed, and what is told of those that aren't.
func TestParse(t *testing.T) {
	zeros := strings.Repeat("0", 100)
	rows := []struct {
		s    string
		base int
		want int
		e    api.Errno
	}{
		{"0", 10, 0, api.OK},
		{"-0", 10, 0, api.OK},
		{"+0", 2, 0, api.OK},
		{"42", 10, 42, api.OK},
		{"+42", 10, 42, api.OK},
		{"-42", 10, -42, api.OK},
		{"0042", 10, 42, api.OK},
		{"-" + zeros + "42", 10, -42, api.OK},
		{zeros, 10, 0, api.OK},
		{zeros + "9223372036854775807", 10, greatest, api.OK},
		{"ff", 16, 255, api.OK},
		{"FF", 16, 255, api.OK},
		{"-fF", 16, -255, api.OK},
		{"aB", 12, 131, api.OK},
		{"-1f", 16, -31, api.OK},
		{"11111", 2, 31, api.OK},
		{"9223372036854775807", 10, greatest, api.OK},
		{"+9223372036854775807", 10, greatest, api.OK},
		{"-9223372036854775808", 10, least, api.OK},
		{"-8000000000000000", 16, least, api.OK},
		{"9223372036854775808", 10, 0, api.ErrRange},
		{"+9223372036854775808", 10, 0, api.ErrRange},
		{"-9223372036854775809", 10, 0, api.ErrRange},
		{"8000000000000000", 16, 0, api.ErrRange},
		{"-8000000000000001", 16, 0, api.ErrRange},
		{"ffffffffffffffff", 16, 0, api.ErrRange},
		{"10000000000000000", 16, 0, api.ErrRange},
		{"-" + strings.Repeat("9", 5000), 10, 0, api.ErrRange},
		{"1" + zeros, 2, 0, api.ErrRange},
		{"", 10, 0, api.ErrForm},
		{"+", 10, 0, api.ErrForm},
		{"-", 16, 0, api.ErrForm},
		{"--1", 10, 0, api.ErrForm},
		{"+-1", 10, 0, api.ErrForm},
		{"1-", 10, 0, api.ErrForm},
		{" 1", 10, 0, api.ErrForm},
		{"1 ", 10, 0, api.ErrForm},
		{"1_0", 10, 0, api.ErrForm},
		{"0x1", 16, 0, api.ErrForm},
		{"1.5", 10, 0, api.ErrForm},
		{"2", 2, 0, api.ErrForm},
		{"8", 8, 0, api.ErrForm},
		{"a", 10, 0, api.ErrForm},
		{"A", 10, 0, api.ErrForm},
		{"g", 16, 0, api.ErrForm},
		{"G", 16, 0, api.ErrForm},
		{"\x00", 10, 0, api.ErrForm},
		{"\u0661", 10, 0, api.ErrForm},
		{strings.Repeat("9", 5000) + "?", 10, 0, api.ErrForm},
		{strings.Repeat("1", 99) + "2", 2, 0, api.ErrForm},
	}
	for _, r := range rows {
		if got, e := fix.Parse(r.s, r.base); got != r.want || e != r.e {
			t.Errorf("Parse(%q, %d): %d %d, asked for %d %d", r.s, r.base, got, e, r.want, r.e)
		}
	}
}

// 1.3: each byte by itself, to each base, is the digit that it should be, or
// none.
func TestEachByte(t *testing.T) {
	const digits = "0123456789abcdef"
	for base := 2; base <= 16; base++ {
		for c := range 256 {
			s := string([]byte{byte(c)})
			value := strings.Index(digits[:base], strings.ToLower(s))
			want, asked := value, api.OK
			if value < 0 {
				want, asked = 0, api.ErrForm
			}
			if got, e := fix.Parse(s, base); got != want || e != asked {
				t.Fatalf("Parse(%q, %d): %d %d, asked for %d %d", s, base, got, e, want, asked)
			}
		}
	}
}

// 1.3: just past both ends, to each base.
func TestPastTheEnds(t *testing.T) {
	one := big.NewInt(1)
	above := new(big.Int).Add(large(greatest), one)
	below := new(big.Int).Sub(large(least), one)
	for base := 2; base <= 16; base++ {
		for _, wide := range []*big.Int{above, below, new(big.Int).Lsh(above, 1), new(big.Int).Lsh(above, 64)} {
			if n, e := fix.Parse(wide.Text(base), base); n != 0 || e != api.ErrRange {
				t.Fatalf("Parse(%q, %d): %d %d", wide.Text(base), base, n, e)
			}
		}
	}
}

// 1.4: a number is parsed of its text, with great letters too.
func TestTextAndBack(t *testing.T) {
	for _, a := range append(edges(), mixed(2000)...) {
		for base := 2; base <= 16; base++ {
			s := fix.Text(a, base)
			for _, spelt := range []string{s, strings.ToUpper(s)} {
				if n, e := fix.Parse(spelt, base); n != a || e != api.OK {
					t.Fatalf("Parse(%q, %d): %d %d, asked for %d", spelt, base, n, e, a)
				}
			}
		}
	}
}
