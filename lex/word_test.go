package lex_test

import (
	"fmt"
	"math"
	"math/big"
	"slices"
	"strings"
	"testing"

	"hibernacle/api"
	"hibernacle/lex"
)

// wordBytes are the bytes of words, but for the `#`.
const wordBytes = "abcdefghijklmnopqrstuvwxyzABCDEFGHIJKLMNOPQRSTUVWXYZ0123456789!$%&*/:<=>?^_~+-.@"

// names are the characters' names.
func names() map[string]int {
	return map[string]int{"nul": 0, "space": 32, "newline": 10, "tab": 9, "return": 13, "escape": 27, "delete": 127, "alarm": 7, "backspace": 8}
}

// 16.1: labels of one digit, two and three.
func TestLabels(t *testing.T) {
	for n := range 1000 {
		for _, s := range []string{fmt.Sprint(n), fmt.Sprintf("%02d", n), fmt.Sprintf("%03d", n)} {
			stands(t, "#"+s+"=", label(n))
			stands(t, "(#"+s+"#)", mark(lex.Open), at(1, again(n)), at(3+len(s), mark(lex.Close)))
		}
	}
	stands(t, "#0=(1 . #0#)", label(0), at(3, mark(lex.Open)), at(4, whole(1)), at(6, mark(lex.Dot)), at(8, again(0)), at(11, mark(lex.Close)))
	for _, s := range []string{"#0000=", "#1234=", "#1234#", "#=", "##", "#1", "#12", "#123", "#1234", "#1a=", "#a=", "#-1=", "#+1=", "# 1=", "#1 =", "#1 #", "#1(", "#1.#", "#b1=", "#d1#"} {
		fails(t, s, 0, api.ErrForm)
		fails(t, "a "+s, 2, api.ErrForm)
	}
}

// 16.1: anything may stand behind a label's `=`, but behind its `#` not.
func TestBehindLabels(t *testing.T) {
	stands(t, "#1=a", label(1), at(3, symbol("a")))
	stands(t, "#1=2", label(1), at(3, whole(2)))
	stands(t, "#1==", label(1), at(3, symbol("=")))
	stands(t, "#1=#2=#3#", label(1), at(3, label(2)), at(6, again(3)))
	stands(t, `#1="a"`, label(1), at(3, quoted("a")))
	stands(t, "#1='`,,@", label(1), at(3, mark(lex.Quote)), at(4, mark(lex.Quasi)), at(5, mark(lex.Unquote)), at(6, mark(lex.Splice)))
	stands(t, "#1=#|a|##;b", label(1), at(8, mark(lex.Skip)), at(10, symbol("b")))
	stands(t, "#1= .", label(1), at(4, mark(lex.Dot)))
	fails(t, "#1=]", 3, api.ErrForm)
	fails(t, "#1=#", 3, api.ErrForm)
	for _, s := range []string{"a", "2", "=", "#", "#2#", "#2=", "#t", "'", "`", ",", ",@", "#(", "#u8(", "#;", "#||#", "]", "\\", "|", "\x80", "\x00", ".", `#\a`} {
		fails(t, "#1#"+s, 3, api.ErrForm)
	}
	for _, s := range []string{" ", "\n", "\t", "\f", "\r", ";"} {
		stands(t, "#1#"+s, again(1))
	}
	stands(t, "#1#(", again(1), at(3, mark(lex.Open)))
	stands(t, "#1#)", again(1), at(3, mark(lex.Close)))
	stands(t, `#1#""`, again(1), at(3, quoted("")))
}

// 16.1: numbers, with signs and with zeros ahead.
func TestNumbers(t *testing.T) {
	rows := map[string]int{
		"0": 0, "1": 1, "-1": -1, "+1": 1, "-0": 0, "+0": 0, "007": 7, "-007": -7, "255": 255,
		"9223372036854775807": math.MaxInt, "-9223372036854775808": math.MinInt, "+9223372036854775807": math.MaxInt,
		"0000000000000000000000000000000000000000000012": 12, "-" + strings.Repeat("0", 4000) + "5": -5,
		"#b101": 5, "#o17": 15, "#d19": 19, "#xfF": 255, "#x-1f": -31, "#b+1": 1, "#o-7": -7, "#d-12": -12, "#b0001": 1, "#xcafe": 0xcafe, "#xbad": 0xbad, "#d0": 0,
	}
	for s, n := range rows {
		stands(t, s, whole(n))
		stands(t, "("+s+")", mark(lex.Open), at(1, whole(n)), at(1+len(s), mark(lex.Close)))
	}
	stands(t, "1 2\t-3", whole(1), at(2, whole(2)), at(4, whole(-3)))
	for _, s := range []string{"1a", "1-", "1+1", "-1a", "+1.", "1.", "1.5", "1/2", "1e3", "0x10", "1#", "#1", "#x", "#b", "#o", "#d", "#b-", "#x+", "#b2", "#o8", "#d1a", "#xg", "#b--1", "#x#x1", "#B1", "#X1", "#e1", "#x1#", "#b1.0", "#d.", "#d1/2"} {
		fails(t, s, 0, api.ErrForm)
		fails(t, "' "+s, 2, api.ErrForm)
	}
}

// 16.1: of each base, the numbers at the ends of what fits, and one beyond.
func TestEndsOfNumbers(t *testing.T) {
	bases := map[string]int{"": 10, "#b": 2, "#o": 8, "#d": 10, "#x": 16}
	for ahead, base := range bases {
		for _, zeros := range []string{"", "0", strings.Repeat("0", 70)} {
			for _, n := range []int{math.MaxInt, math.MaxInt - 1, 0, 1, 77} {
				digits := big.NewInt(int64(n)).Text(base)
				stands(t, ahead+zeros+digits, whole(n))
				stands(t, ahead+"+"+zeros+strings.ToUpper(digits), whole(n))
				stands(t, ahead+"-"+zeros+digits, whole(-n))
			}
			beyond := new(big.Int).Lsh(big.NewInt(1), 63)
			stands(t, ahead+"-"+zeros+beyond.Text(base), whole(math.MinInt))
			fails(t, ahead+zeros+beyond.Text(base), 0, api.ErrRange)
			fails(t, "( "+ahead+"+"+zeros+beyond.Text(base)+")", 2, api.ErrRange)
			fails(t, ahead+"-"+zeros+beyond.Add(beyond, big.NewInt(1)).Text(base), 0, api.ErrRange)
		}
	}
	fails(t, strings.Repeat("9", 4096), 0, api.ErrRange)
	fails(t, "99999999999999999999g", 0, api.ErrForm)
	fails(t, "#b999999999999999999999999999999999999999999999999999999999999999999", 0, api.ErrForm)
}

// 16.1: each digit of each base, and the ones that the base hasn't.
func TestDigits(t *testing.T) {
	for ahead, base := range map[string]int{"#b": 2, "#o": 8, "#d": 10, "#x": 16} {
		for c := range len(wordBytes) {
			s := wordBytes[c : c+1]
			n := strings.Index("0123456789abcdef", strings.ToLower(s))
			if 0 <= n && n < base {
				stands(t, ahead+s, whole(n))
				stands(t, ahead+"1"+s, whole(base+n))
			} else {
				fails(t, ahead+s, 0, api.ErrForm)
				fails(t, ahead+"1"+s, 0, api.ErrForm)
			}
		}
	}
}

// 16.1: truths by each of their words.
func TestTruths(t *testing.T) {
	stands(t, "#t #true #f #false", at(0, truth(1)), at(3, truth(1)), at(9, truth(0)), at(12, truth(0)))
	stands(t, "#t(#f)", at(0, truth(1)), at(2, mark(lex.Open)), at(3, truth(0)), at(5, mark(lex.Close)))
	for _, s := range []string{"#T", "#F", "#True", "#TRUE", "#False", "#tr", "#tru", "#truee", "#fals", "#t#", "#t#f", "#tt", "#y", "##t"} {
		fails(t, s, 0, api.ErrForm)
	}
}

// 16.1: characters by one byte, whatever it is.
func TestCharsByBytes(t *testing.T) {
	for c := range 128 {
		s := `#\` + string(rune(c))
		stands(t, s, char(c))
		stands(t, s+" a", char(c), at(4, symbol("a")))
		stands(t, s+"(", char(c), at(3, mark(lex.Open)))
		stands(t, s+")", char(c), at(3, mark(lex.Close)))
		stands(t, s+";a", char(c))
		stands(t, s+`"a"`, char(c), at(3, quoted("a")))
		fails(t, s+"'", 3, api.ErrForm)
		fails(t, s+"]", 3, api.ErrForm)
		fails(t, s+"z", 0, api.ErrForm)
		fails(t, s+"#", 0, api.ErrForm)
	}
	for c := 128; c < 256; c++ {
		s := `#\` + string([]byte{byte(c)})
		fails(t, s, 2, api.ErrForm)
		fails(t, "("+s+")", 3, api.ErrForm)
		fails(t, s+"a", 0, api.ErrForm)
	}
	fails(t, `#\é`, 2, api.ErrForm)
	fails(t, `#\`, 0, api.ErrForm)
	fails(t, `a #\`, 2, api.ErrForm)
	fails(t, `#\a#\b`, 0, api.ErrForm)
	fails(t, `a#\b`, 0, api.ErrForm)
	fails(t, `\a`, 0, api.ErrForm)
	stands(t, `#\#(#\()`, char('#'), at(3, mark(lex.Open)), at(4, char('(')), at(7, mark(lex.Close)))
}

// 16.1: characters by each name, and by names that are none.
func TestCharsByNames(t *testing.T) {
	for name, n := range names() {
		stands(t, `#\`+name, char(n))
		stands(t, ` #\`+name+`)`, at(1, char(n)), at(3+len(name), mark(lex.Close)))
		fails(t, `#\`+strings.ToUpper(name), 0, api.ErrForm)
		fails(t, `#\`+name+"s", 0, api.ErrForm)
		fails(t, `#\`+name[:len(name)-1], 0, api.ErrForm)
		fails(t, "#"+name, 0, api.ErrForm)
	}
	for _, s := range []string{"null", "linefeed", "rubout", "altmode", "ab", "(a", " a", "..", "1x"} {
		fails(t, `#\`+s, 0, api.ErrForm)
	}
}

// 16.1: characters by hex digits: those that a text may have.
func TestCharsByHex(t *testing.T) {
	for n := range 128 {
		stands(t, fmt.Sprintf(`#\x%x`, n), char(n))
		stands(t, fmt.Sprintf(`#\x%X`, n), char(n))
		stands(t, fmt.Sprintf(`#\x%02x`, n), char(n))
		stands(t, fmt.Sprintf(`#\x%040x`, n), char(n))
	}
	stands(t, `#\x`, char('x'))
	stands(t, `#\x;41`, char('x'))
	for _, s := range []string{"80", "ff", "100", "180", "7fffffffffffffff", "8000000000000000", "10000000000000041", "g", "4g", "+41", "-1", "-0", "+", "x", "0x1", "41#", strings.Repeat("f", 100)} {
		fails(t, `#\x`+s, 0, api.ErrForm)
	}
	fails(t, `#\X41`, 0, api.ErrForm)
	fails(t, `#\x41]`, 5, api.ErrForm)
}

// 16.1: symbols: of every first byte and every second one.
func TestSymbols(t *testing.T) {
	for _, c := range wordBytes {
		s := string(c)
		switch {
		case '0' <= c && c <= '9':
			stands(t, s, whole(int(c-'0')))
			fails(t, s+"a", 0, api.ErrForm)
		case c == '.':
			stands(t, s, mark(lex.Dot))
			stands(t, s+"a", symbol(s+"a"))
		default:
			stands(t, s, symbol(s))
			stands(t, s+"a", symbol(s+"a"))
		}
		stands(t, "a"+s, symbol("a"+s))
		fails(t, s+"#", 0, api.ErrForm)
		fails(t, "a"+s+"#a", 0, api.ErrForm)
	}
	for _, s := range []string{"car", "set!", "x->y", "<=?", "a.b", "a1", "aB", "+", "-", "+a", "-a", "+-", "-+1", "--1", "+.", "-.5", ".5", ".1a", "..", "...", ".a", "->", "@", "@a", ":a", "!$%&*/:<=>?^_~", "+@1"} {
		stands(t, s, symbol(s))
		stands(t, "("+s+")", mark(lex.Open), at(1, symbol(s)), at(1+len(s), mark(lex.Close)))
	}
	for _, s := range []string{"+1a", "-1a", "1a", "+1+", "-0x", "9.", "a#", "#a", "a#b", "+#", ".#", "-1-"} {
		fails(t, s, 0, api.ErrForm)
	}
}

// 16.1: symbols of 32 bytes, and of one more.
func TestLongSymbols(t *testing.T) {
	for _, c := range []string{"a", "Z", "-", ".", "@", "+"} {
		s := strings.Repeat(c, 32)
		stands(t, s, symbol(s))
		fails(t, s+c, 0, api.ErrLong)
		fails(t, "("+s+c+")", 1, api.ErrLong)
		fails(t, s+s+s, 0, api.ErrLong)
		fails(t, s+c+"#", 0, api.ErrForm)
		fails(t, "1"+s+c, 0, api.ErrForm)
	}
	fails(t, strings.Repeat("a", 4096), 0, api.ErrLong)
	stands(t, "-"+strings.Repeat("1", 18), whole(-111111111111111111))
}

// 16.1: dots by themselves, and side by side.
func TestDots(t *testing.T) {
	stands(t, ".", mark(lex.Dot))
	stands(t, ". .", mark(lex.Dot), at(2, mark(lex.Dot)))
	stands(t, "(. )", mark(lex.Open), at(1, mark(lex.Dot)), at(3, mark(lex.Close)))
	stands(t, "(.)", mark(lex.Open), at(1, mark(lex.Dot)), at(2, mark(lex.Close)))
	stands(t, `."a"`, mark(lex.Dot), at(1, quoted("a")))
	stands(t, "..", symbol(".."))
	stands(t, "...", symbol("..."))
	stands(t, ".. .", symbol(".."), at(3, mark(lex.Dot)))
	fails(t, ".'a", 1, api.ErrForm)
	fails(t, ".#", 0, api.ErrForm)
}

// 16.1: what may stand behind a word, and behind a string, and what may not.
func TestBehind(t *testing.T) {
	ahead := map[string]lex.Token{
		"a": symbol("a"), "12": whole(12), "#t": truth(1), `#\a`: char('a'), ".": mark(lex.Dot), `"b"`: quoted("b"),
		"#x1f": whole(31), `#\space`: char(32), `#\x41`: char(65), "...": symbol("..."), "#1#": again(1), `""`: quoted(""),
	}
	for s, token := range ahead {
		for _, rest := range []string{"\t", "\n", "\f", "\r", " ", ";", ";a"} {
			stands(t, s+rest, token)
		}
		stands(t, s+"(", token, at(len(s), mark(lex.Open)))
		stands(t, s+")", token, at(len(s), mark(lex.Close)))
		stands(t, s+`"c"`, token, at(len(s), quoted("c")))
		for c := range 256 {
			rest := string([]byte{byte(c)})
			if strings.Contains(wordBytes+"#\t\n\f\r ();\"", rest) {
				continue
			}
			fails(t, s+rest, len(s), api.ErrForm)
			fails(t, "( "+s+rest+")", 2+len(s), api.ErrForm)
		}
		fails(t, s+`"c`, len(s), api.ErrEnd)
	}
	for _, rest := range slices.Concat([]string{"#(", "#u8(", "#;", "#||#", "#t", "#1=", "#1#", `#\a`}, strings.Split(wordBytes, "")) {
		fails(t, `"b"`+rest, 3, api.ErrForm)
		fails(t, "#1#"+rest, 3, api.ErrForm)
	}
}
