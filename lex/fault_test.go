package lex_test

import (
	"strings"
	"testing"

	"hibernacle/api"
)

// 16.1: of two faults the first one by its place is told.
func TestFirstFault(t *testing.T) {
	long, huge := strings.Repeat("a", 33), strings.Repeat("9", 20)
	rows := []struct {
		s     string
		place int
		e     api.Errno
	}{
		{"] \"a", 0, api.ErrForm},
		{"\"a ]", 0, api.ErrEnd},
		{"#| ] \"", 0, api.ErrEnd},
		{"] #|", 0, api.ErrForm},
		{huge + " " + long, 0, api.ErrRange},
		{long + " " + huge, 0, api.ErrLong},
		{"1a \x80", 0, api.ErrForm},
		{"a \x80 \"", 2, api.ErrForm},
		{"a'\"", 1, api.ErrForm},
		{"'" + huge + "]", 1, api.ErrRange},
		{long + "'", 0, api.ErrLong},
		{"a' " + long, 1, api.ErrForm},
		{`"a\q\x;" ]`, 2, api.ErrForm},
		{`"a\q`, 0, api.ErrEnd},
		{`"a\q" "b`, 2, api.ErrForm},
		{`"a` + "\x80" + `\q"`, 2, api.ErrForm},
		{`"a\q` + "\x80" + `"`, 2, api.ErrForm},
		{`#\` + "\x80" + "a", 0, api.ErrForm},
		{`#\` + "\x80" + "'", 2, api.ErrForm},
		{"; \x80\n]", 2, api.ErrForm},
		{"#| #| |# \x80", 0, api.ErrEnd},
		{`a"b`, 1, api.ErrEnd},
		{`"a"b"`, 3, api.ErrForm},
	}
	for _, r := range rows {
		fails(t, r.s, r.place, r.e)
		fails(t, "(b "+r.s, 3+r.place, r.e)
	}
}

// 16.1: of two faults at one place the first one that the promise names is
// told: what isn't ended, what is too long, what doesn't fit, and then ErrForm,
// as of all that may not stand right behind what is ahead of it.
func TestFaultsAtOnePlace(t *testing.T) {
	rows := map[string]api.Errno{
		"#|":                          api.ErrEnd,
		"#| #| |#":                    api.ErrEnd,
		"#| |#":                       api.ErrForm,
		strings.Repeat("a", 33):       api.ErrLong,
		strings.Repeat("a", 32):       api.ErrForm,
		"9223372036854775808":         api.ErrRange,
		"9223372036854775807":         api.ErrForm,
		"#x8000000000000000":          api.ErrRange,
		"#\\x8000000000000000":        api.ErrForm,
		"1a":                          api.ErrForm,
		"\x80":                        api.ErrForm,
		"]":                           api.ErrForm,
		"#1=":                         api.ErrForm,
		"'" + strings.Repeat("a", 33): api.ErrForm,
		"'#|":                         api.ErrForm,
	}
	for s, e := range rows {
		fails(t, `"a"`+s, 3, e)
		fails(t, `(#1#`+s, 4, e)
	}
	fails(t, `"a""`, 3, api.ErrEnd)
	fails(t, "#1#\"", 3, api.ErrEnd)
}
