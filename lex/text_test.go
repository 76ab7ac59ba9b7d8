package lex_test

import (
	"fmt"
	"math"
	"strings"
	"testing"

	"hibernacle/lex"
)

// reads asks for a token's text, by itself and joined.
func reads(t *testing.T, token lex.Token, want string) {
	t.Helper()
	for _, place := range []int{0, 7, -1} {
		if got := lex.Text(at(place, token)); got != want {
			t.Fatalf("Text(%v): %q, asked for %q", token, got, want)
		}
	}
	if got := lex.Join([]lex.Token{token}); got != want {
		t.Fatalf("Join of %v: %q, asked for %q", token, got, want)
	}
}

// 16.2: texts of marks, whatever else the token says.
func TestTextOfMarks(t *testing.T) {
	for k, s := range marks() {
		reads(t, mark(k), s)
		reads(t, lex.Token{Kind: k, N: 5, S: "a"}, s)
	}
	reads(t, mark(lex.Dot), ".")
	reads(t, lex.Token{Kind: lex.Dot, N: 5, S: "a"}, ".")
}

// 16.2: texts of numbers, truths, labels and symbols.
func TestTextOfWords(t *testing.T) {
	for _, n := range []int{0, 1, -1, 10, 999, -12345, math.MaxInt, math.MinInt} {
		reads(t, whole(n), fmt.Sprint(n))
		reads(t, lex.Token{Kind: lex.Int, N: n, S: "a"}, fmt.Sprint(n))
	}
	for _, n := range []int{0, 1, 9, 10, 99, 100, 999} {
		reads(t, label(n), fmt.Sprintf("#%d=", n))
		reads(t, again(n), fmt.Sprintf("#%d#", n))
	}
	reads(t, truth(0), "#f")
	reads(t, truth(1), "#t")
	for _, s := range []string{"a", "car", "+", "...", "set!", strings.Repeat("x", 32)} {
		reads(t, symbol(s), s)
		reads(t, lex.Token{Kind: lex.Symbol, N: 9, S: s}, s)
	}
}

// 16.2: texts of characters with every byte from 0 to 127.
func TestTextOfChars(t *testing.T) {
	byNumber := map[int]string{}
	for name, n := range names() {
		byNumber[n] = name
	}
	for n := range 128 {
		want := fmt.Sprintf("x%02x", n)
		if 33 <= n && n <= 126 {
			want = string(rune(n))
		}
		if name, ok := byNumber[n]; ok {
			want = name
		}
		reads(t, char(n), `#\`+want)
		scans(t, lex.Text(char(n)), char(n))
	}
	reads(t, char(1), `#\x01`)
	reads(t, char(31), `#\x1f`)
	reads(t, char(11), `#\x0b`)
	reads(t, char(0), `#\nul`)
	reads(t, char(127), `#\delete`)
	reads(t, char('('), `#\(`)
	reads(t, char('x'), `#\x`)
	reads(t, char('"'), `#\"`)
	reads(t, char('!'), `#\!`)
	reads(t, char('~'), `#\~`)
}

// 16.2: texts of strings with every byte from 0 to 127.
func TestTextOfStrings(t *testing.T) {
	escapes := map[byte]string{34: `\"`, 92: `\\`, 10: `\n`, 9: `\t`, 13: `\r`}
	all, allText := "", ""
	for c := range byte(128) {
		want := string(rune(c))
		if c < 32 || c == 127 {
			want = fmt.Sprintf(`\x%02x;`, c)
		}
		if s, ok := escapes[c]; ok {
			want = s
		}
		reads(t, quoted(string(rune(c))), `"`+want+`"`)
		reads(t, quoted("a"+string(rune(c))+"1"), `"a`+want+`1"`)
		scans(t, lex.Text(quoted(string(rune(c)))), quoted(string(rune(c))))
		all, allText = all+string(rune(c)), allText+want
	}
	reads(t, quoted(all), `"`+allText+`"`)
	reads(t, quoted(""), `""`)
	reads(t, quoted("\a\b"), `"\x07;\x08;"`)
	reads(t, quoted("a b;'|"), `"a b;'|"`)
	reads(t, quoted(`\x41;`), `"\\x41;"`)
	long := strings.Repeat("\x7f", 5000)
	reads(t, quoted(long), `"`+strings.Repeat(`\x7f;`, 5000)+`"`)
}

// 16.2, P1: texts of tokens that Scan can't tell.
func TestTextOfOthers(t *testing.T) {
	for _, k := range []lex.Kind{-1, lex.Again + 1, 1000, math.MaxInt, math.MinInt} {
		reads(t, lex.Token{Kind: k, N: 5, S: "a"}, "")
	}
	reads(t, truth(2), "#t")
	reads(t, truth(-1), "#t")
	reads(t, label(1000), "#1000=")
	reads(t, again(-7), "#-7#")
	reads(t, label(math.MinInt), "#-9223372036854775808=")
	reads(t, symbol(""), "")
	reads(t, symbol("a b"), "a b")
	reads(t, symbol("\xff"), "\xff")
	reads(t, quoted("a\x80\xffé"), "\"a\x80\xffé\"")
	reads(t, quoted("\u2028\n"), "\"\u2028\\n\"")
	reads(t, char(128), `#\x80`)
	reads(t, char(255), `#\xff`)
	for _, n := range []int{-1, 256, 0x141, 1 << 40, math.MaxInt, math.MinInt} {
		reads(t, char(n), fmt.Sprintf(`#\x%02x`, n&255))
	}
}

// 16.2: tokens' texts are joined with a blank between.
func TestJoin(t *testing.T) {
	rows := []struct {
		want string
		list []lex.Token
	}{
		{"", nil},
		{"", []lex.Token{}},
		{"a", []lex.Token{symbol("a")}},
		{"a b", []lex.Token{symbol("a"), symbol("b")}},
		{"( )", []lex.Token{mark(lex.Open), at(50, mark(lex.Close))}},
		{`#( #u8( ' ` + "`" + ` , ,@ #; . -5 #t #f #\a "a\"b" sym #3= #4#`, []lex.Token{
			mark(lex.Vector), mark(lex.Bytes), mark(lex.Quote), mark(lex.Quasi), mark(lex.Unquote), mark(lex.Splice), mark(lex.Skip), mark(lex.Dot),
			whole(-5), truth(1), truth(0), char('a'), quoted(`a"b`), symbol("sym"), label(3), again(4),
		}},
		{"", []lex.Token{symbol("")}},
		{"  a", []lex.Token{symbol(""), mark(-1), symbol("a")}},
		{"a  ", []lex.Token{symbol("a"), mark(99), symbol("")}},
	}
	for _, r := range rows {
		if got := lex.Join(r.list); got != r.want {
			t.Fatalf("Join of %v: %q, asked for %q", r.list, got, r.want)
		}
	}
	many := make([]lex.Token, 5000)
	if got, want := lex.Join(many), strings.Repeat("( ", 4999)+"("; got != want {
		t.Fatal("Join of many:", len(got))
	}
	l, _, _ := lex.Scan(`(car '(1 . #\a))`)
	if got := lex.Join(l); got != `( car ' ( 1 . #\a ) )` {
		t.Fatal("Join of the example:", got)
	}
}

// 16.2: what is a symbol's word.
func TestIsSymbol(t *testing.T) {
	for _, s := range []string{"a", "car", "set!", "+", "-", "+a", "->x", "...", "..", ".a", ".5", "+.5", "-.", "@", "a.b", "a1", "!$%&*/:<=>?^_~+-.@", strings.Repeat("a", 32), strings.Repeat(".", 32), "car%1", "--1"} {
		if !lex.IsSymbol(s) {
			t.Errorf("IsSymbol(%q) is false", s)
		}
	}
	for _, s := range []string{
		"", " ", ".", "1", "12", "-5", "+5", "1a", "+1a", "-1-", "99999999999999999999", "#t", "#f", "#true", `#\a`, `#\ `, "#1=", "#1#", "#", "a#", "#a", "#x1f", "#(",
		"a b", " a", "a ", "a\n", "\ta", "a;b", "a;", ";", "a#|b|#", "#||#", "#||#a", "(", ")", "a(", "(a", "a)", "'a", "a'", "`", ",", ",a", ",@", ",@a", `"a"`, `a"`, "a[", "a|b", `a\`,
		"é", "aé", "\x80", "a\x80", "\x00", "a\x00", "\x7f", strings.Repeat("a", 33), strings.Repeat("a", 5000), strings.Repeat("a", 32) + " ",
	} {
		if lex.IsSymbol(s) {
			t.Errorf("IsSymbol(%q) is true", s)
		}
	}
}

// 16.2: a symbol's word is what Scan takes as one, and as nothing else.
func TestIsSymbolByScan(t *testing.T) {
	for a := range 256 {
		for b := range 256 {
			for _, s := range []string{string([]byte{byte(a)}), string([]byte{byte(a), byte(b)}), string([]byte{'a', byte(a), byte(b)}), string([]byte{byte(a), byte(b), '1'})} {
				l, _, _ := lex.Scan(s)
				if got, want := lex.IsSymbol(s), len(l) == 1 && l[0] == symbol(s); got != want {
					t.Fatalf("IsSymbol(%q): %v", s, got)
				}
			}
		}
	}
}
