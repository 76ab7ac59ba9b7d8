package lex

import (
	"strings"

	"hibernacle/fix"
)

// Text is a token's text.
func Text(t Token) string {
	switch t.Kind {
	case Dot:
		return "."
	case Int:
		return fix.Text(t.N, 10)
	case Bool:
		return truthText(t.N)
	case Char:
		return charMark + charText(t.N)
	case String:
		return quote(t.S)
	case Symbol:
		return t.S
	case Label:
		return "#" + fix.Text(t.N, 10) + "="
	case Again:
		return "#" + fix.Text(t.N, 10) + "#"
	}
	if t.Kind < 0 || int(t.Kind) >= len(marks) {
		return ""
	}
	return marks[t.Kind]
}

// Join is tokens' texts with blanks between.
func Join(l []Token) string {
	var b strings.Builder
	for i, t := range l {
		if i > 0 {
			b.WriteByte(' ')
		}
		b.WriteString(Text(t))
	}
	return b.String()
}

func truthText(n int) string {
	if n == 0 {
		return "#f"
	}
	return "#t"
}

// charText is what stands behind a character's `#\`.
func charText(n int) string {
	for _, named := range names {
		if n == named.n {
			return named.name
		}
	}
	if isShown(n) {
		return string(rune(n))
	}
	return "x" + twoDigits(n)
}

// isShown tells whether there is something to see of a byte.
func isShown(n int) bool {
	return 33 <= n && n <= 126
}

// quote is a string's text.
func quote(s string) string {
	var b strings.Builder
	b.WriteByte('"')
	for i := range len(s) {
		c := s[i]
		letter := strings.IndexByte(writtenBytes, c)
		switch {
		case letter >= 0:
			b.WriteByte('\\')
			b.WriteByte(writtenLetters[letter])
		case c < ' ' || c == 127:
			b.WriteString(`\x` + twoDigits(int(c)) + ";")
		default:
			b.WriteByte(c)
		}
	}
	b.WriteByte('"')
	return b.String()
}

// twoDigits are two hex digits, the last ones of a number that has more.
func twoDigits(n int) string {
	const digits = "0123456789abcdef"
	return string([]byte{digits[n>>4&15], digits[n&15]})
}
