package lex_test

import (
	"fmt"
	"strings"
	"testing"

	"hibernacle/api"
	"hibernacle/lex"
)

// 16.1: strings of plain bytes, each at its place.
func TestStrings(t *testing.T) {
	stands(t, `""`, quoted(""))
	stands(t, `"a b"`, quoted("a b"))
	stands(t, ` "a""" "b"`, at(1, quoted("a")), at(4, quoted("")), at(7, quoted("b")))
	stands(t, "\"a\nb\r\n\"", quoted("a\nb\r\n"))
	stands(t, `"(;#|'"`, quoted("(;#|'"))
	stands(t, `a"b"(`, symbol("a"), at(1, quoted("b")), at(4, mark(lex.Open)))
	for c := range 128 {
		if s := string(rune(c)); c != '"' && c != '\\' {
			stands(t, `"`+s+`"`, quoted(s))
			stands(t, `"a`+s+s+`b"`, quoted("a"+s+s+"b"))
		}
	}
}

// 16.1: each escape, and all bytes behind a backslash that make none.
func TestEscapes(t *testing.T) {
	list := map[byte]byte{'"': 34, '\\': 92, 'n': 10, 't': 9, 'r': 13, 'a': 7, 'b': 8}
	for c := range 256 {
		s := `"a\` + string([]byte{byte(c)}) + `b"`
		if n, ok := list[byte(c)]; ok {
			stands(t, s, quoted("a"+string(rune(n))+"b"))
			continue
		}
		fails(t, s, 2, api.ErrForm)
	}
	stands(t, `"\"\\\n\t\r\a\b"`, quoted("\"\\\n\t\r\a\b"))
	stands(t, `"\\"`, quoted(`\`))
	stands(t, `"\\n"`, quoted(`\n`))
	stands(t, `"\\\""`, quoted(`\"`))
}

// 16.1: escapes by hex digits, of all numbers that a byte may have.
func TestHexEscapes(t *testing.T) {
	for n := range 128 {
		want := quoted("a" + string(rune(n)) + "b")
		stands(t, fmt.Sprintf(`"a\x%x;b"`, n), want)
		stands(t, fmt.Sprintf(`"a\x%X;b"`, n), want)
		stands(t, fmt.Sprintf(`"a\x%040x;b"`, n), want)
	}
	stands(t, `"\x0;\x7f;\x7F;"`, quoted("\x00\x7f\x7f"))
	stands(t, `"\x41;;"`, quoted("A;"))
	stands(t, `"\x4a;\x4A;"`, quoted("JJ"))
	stands(t, `"\x22;\x5c;"`, quoted(`"\`))
	wrong := []string{
		"80", "ff", "FF", "100", "180", "7fffffffffffffff", "8000000000000000", "10000000000000041",
		"", "g", "4g", "+41", "-1", "-0", " 41", "41 ", "4 1", "\\n", "#41", "x41", "0x41", strings.Repeat("f", 100),
	}
	for _, s := range wrong {
		fails(t, `"a\x`+s+`;"`, 2, api.ErrForm)
	}
	for _, s := range []string{`"a\x"`, `"a\x41"`, `"a\x41b"`, `"a\x41 ;"`, `"a\x41:"`, `"a\x41\x42;"`, `"a\X41;"`, `"a\x4` + "\xff" + `1;"`} {
		fails(t, s, 2, api.ErrForm)
	}
	fails(t, `"\x41;\x80;"`, 6, api.ErrForm)
	fails(t, `"\x41;" "\x"`, 9, api.ErrForm)
}

// 16.1: strings that aren't ended, whatever else is in them.
func TestStringsNotEnded(t *testing.T) {
	for _, s := range []string{`"`, `"a`, `"\`, `"\"`, `"\\\"`, `"a\"b`, `"\q`, `"\x`, `"\x4`, `"\x41`, `"\x41;`, `"\x80;`, "\"a\n", "\"\x80", `"\"\q`, `"#||#`, `"` + "\xff\\q"} {
		fails(t, s, 0, api.ErrEnd)
		fails(t, "(a "+s, 3, api.ErrEnd)
		fails(t, `"b" `+s, 4, api.ErrEnd)
		fails(t, `"b"`+s, 3, api.ErrEnd)
	}
	fails(t, `"a" ""b"`, 6, api.ErrForm)
	fails(t, `"a" "" "`, 7, api.ErrEnd)
}

// 16.1: bytes from 128 up in strings, at their own places.
func TestHighBytesInStrings(t *testing.T) {
	for c := 128; c < 256; c++ {
		s := string([]byte{byte(c)})
		fails(t, `"`+s+`"`, 1, api.ErrForm)
		fails(t, `"ab`+s+`\q"`, 3, api.ErrForm)
		fails(t, `"a\q`+s+`"`, 2, api.ErrForm)
		fails(t, `"a\n`+s+`"`, 4, api.ErrForm)
		fails(t, `"ab"`+s, 4, api.ErrForm)
	}
	fails(t, `"aé"`, 2, api.ErrForm)
}

// 16.1: strings as long as a text lets them be, and escapes that make them
// shorter.
func TestLongStrings(t *testing.T) {
	stands(t, `"`+strings.Repeat("a", 4094)+`"`, quoted(strings.Repeat("a", 4094)))
	stands(t, `"`+strings.Repeat(`\n`, 2047)+`"`, quoted(strings.Repeat("\n", 2047)))
	stands(t, `"\x`+strings.Repeat("0", 4089)+`1;"`, quoted("\x01"))
	fails(t, `"`+strings.Repeat("a", 4095), 0, api.ErrEnd)
	fails(t, `"`+strings.Repeat("a", 4095)+`"`, 0, api.ErrLong)
}
