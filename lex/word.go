package lex

import (
	"strings"

	"hibernacle/api"
	"hibernacle/fix"
)

const (
	charMark  = `#\`
	wordMarks = "!$%&*/:<=>?^_~+-.@#"
)

// names are the characters' names.
var names = [...]struct {
	name string
	n    int
}{
	{"nul", 0},
	{"space", 32},
	{"newline", 10},
	{"tab", 9},
	{"return", 13},
	{"escape", 27},
	{"delete", 127},
	{"alarm", 7},
	{"backspace", 8},
}

// wordSize is how many bytes the word has that a text begins with.
func wordSize(s string) int {
	size := 0
	if strings.HasPrefix(s, charMark) {
		size = min(len(charMark)+1, len(s))
	}
	for size < len(s) && inWord(s[size]) {
		size++
	}
	return size
}

// inWord tells whether a byte may stand in a word.
func inWord(c byte) bool {
	switch {
	case 'a' <= c && c <= 'z', 'A' <= c && c <= 'Z', isDigit(c):
		return true
	}
	return strings.IndexByte(wordMarks, c) >= 0
}

func isDigit(c byte) bool {
	return '0' <= c && c <= '9'
}

// wordOf is what a word is: what the first one tells that doesn't say by ErrNone
// that it is none of its own.
func wordOf(w string) (Token, api.Errno) {
	for _, ask := range []func(string) (Token, api.Errno){dot, number, truth, char, symbol} {
		if t, e := ask(w); e != api.ErrNone {
			return t, e
		}
	}
	return Token{}, api.ErrForm
}

func dot(w string) (Token, api.Errno) {
	if w == "." {
		return Token{Kind: Dot}, api.OK
	}
	return Token{}, api.ErrNone
}

func number(w string) (Token, api.Errno) {
	base, rest := cutBase(w)
	n, e := fix.Parse(rest, base)
	if e == api.ErrForm {
		return Token{}, api.ErrNone
	}
	return Token{Kind: Int, N: n}, e
}

// cutBase parts a word into the base that it names and the rest of it.
func cutBase(w string) (int, string) {
	if len(w) < 2 || w[0] != '#' {
		return 10, w
	}
	switch w[1] {
	case 'b':
		return 2, w[2:]
	case 'o':
		return 8, w[2:]
	case 'd':
		return 10, w[2:]
	case 'x':
		return 16, w[2:]
	}
	return 10, w
}

func truth(w string) (Token, api.Errno) {
	switch w {
	case "#t", "#true":
		return Token{Kind: Bool, N: 1}, api.OK
	case "#f", "#false":
		return Token{Kind: Bool}, api.OK
	}
	return Token{}, api.ErrNone
}

func char(w string) (Token, api.Errno) {
	rest, ok := strings.CutPrefix(w, charMark)
	if !ok {
		return Token{}, api.ErrNone
	}
	if len(rest) == 1 {
		return Token{Kind: Char, N: int(rest[0])}, api.OK
	}
	for _, named := range names {
		if rest == named.name {
			return Token{Kind: Char, N: named.n}, api.OK
		}
	}
	if hex, ok := strings.CutPrefix(rest, "x"); ok {
		if n, ok := byteOf(hex); ok {
			return Token{Kind: Char, N: n}, api.OK
		}
	}
	return Token{}, api.ErrNone
}

func symbol(w string) (Token, api.Errno) {
	switch {
	case w == "", strings.Contains(w, "#"), beginsNumber(w):
		return Token{}, api.ErrNone
	case len(w) > api.MaxName:
		return Token{}, api.ErrLong
	}
	return Token{Kind: Symbol, S: w}, api.OK
}

// beginsNumber tells whether a word begins with a digit, or a sign and a digit.
func beginsNumber(w string) bool {
	return isDigit(w[0]) || len(w) > 1 && (w[0] == '+' || w[0] == '-') && isDigit(w[1])
}

// byteOf is the number of hex digits, if a text may have a byte of it.
func byteOf(hex string) (int, bool) {
	if hex == "" || hex[0] == '+' || hex[0] == '-' {
		return 0, false
	}
	n, e := fix.Parse(hex, 16)
	if e != api.OK || n >= endOfText {
		return 0, false
	}
	return n, true
}
