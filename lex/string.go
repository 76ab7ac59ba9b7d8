package lex

import "strings"

// The letters of escapes, and the bytes that they stand for. The first ones are
// those by which strings are written, too.
const (
	writtenLetters = `"\ntr`
	writtenBytes   = "\"\\\n\t\r"
	readLetters    = writtenLetters + "ab"
	readBytes      = writtenBytes + "\a\b"
)

// quotedSize is how many bytes the string has that a text begins with, both of
// its `"` included; 0, if it isn't ended.
func quotedSize(s string) int {
	for i := 1; i < len(s); i++ {
		switch s[i] {
		case '"':
			return i + 1
		case '\\':
			// The byte behind it ends no string, whether it makes an escape
			// or none.
			i++
		}
	}
	return 0
}

// unquote is what stands between a string's `"`, and -1; or the place of its
// first byte that may not be there, or escape that is none.
func unquote(s string) (string, int) {
	var b strings.Builder
	for i := 0; i < len(s); {
		c, size := s[i], 1
		if c == '\\' {
			c, size = escaped(s[i:])
		}
		if size == 0 || c >= endOfText {
			return "", i
		}
		b.WriteByte(c)
		i += size
	}
	return b.String(), -1
}

// escaped is the byte of the escape that a text begins with, and how many bytes
// the escape has; 0, if it is none.
func escaped(s string) (byte, int) {
	if i := strings.IndexByte(readLetters, s[1]); i >= 0 {
		return readBytes[i], 2
	}
	rest, isHex := strings.CutPrefix(s, `\x`)
	hex, _, ended := strings.Cut(rest, ";")
	n, fits := byteOf(hex)
	if !isHex || !ended || !fits {
		return 0, 0
	}
	return byte(n), len(`\x`) + len(hex) + len(";")
}
