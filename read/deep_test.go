package read_test

import (
	"strings"
	"testing"

	"hibernacle/api"
	"hibernacle/read"
)

// deep is n times what begins a datum, something in the midst, and what ends
// it all.
func deep(n int, begin, amid, end string) string {
	return strings.Repeat(begin, n) + amid + strings.Repeat(end, n)
}

// fine asks that a text has data, and how many objects they need.
func fine(t *testing.T, s string, count, objects int) {
	t.Helper()
	n, place, e := read.Count(s)
	if n != objects || place != len(s) || e != api.OK {
		t.Fatalf("Count(%q): %d, %d, %d; asked for %d", s, n, place, e, objects)
	}
	w := newWorld(t, objects)
	vals, place, e := read.All(w.h, w.x, s)
	if len(vals) != count || place != len(s) || e != api.OK || w.h.Live() != 3+objects {
		t.Fatalf("All(%q): %v, %d, %d, %d objects; asked for %d data, %d objects", s, vals, place, e, w.h.Live()-3, count, objects)
	}
}

// nests are what begins and what ends a datum in which others lie, and how many
// objects it needs for the one that lies in it.
func nests() map[string]struct {
	end     string
	objects int
} {
	return map[string]struct {
		end     string
		objects int
	}{
		"(": {")", 1}, "#(": {")", 1}, "(a . ": {")", 1}, "(a ": {" b)", 3}, "#(a ": {")", 1},
		"'": {"", 2}, "`": {"", 2}, ",": {"", 2}, ",@": {"", 2}, "(#;a ": {" #;b)", 1}, "'#;a ": {"", 2},
	}
}

// begins is where the bracket or the mark stands by which a datum lies one deeper
// than one in which it stands as the text has it.
func begins(n int, begin string) int { return n * len(begin) }

// 17.1: data 64 deep, and 65 deep, by each bracket and mark.
func TestDeep(t *testing.T) {
	for begin, nest := range nests() {
		for _, amid := range []string{"a", "7", `#\a`, "#t", "#;b c"} {
			fine(t, deep(64, begin, amid, nest.end), 1, 64*nest.objects)
			fails(t, deep(65, begin, amid, nest.end), begins(64, begin), api.ErrLong)
		}
		for _, amid := range []string{"(", "()", "#(", "#()", "#u8(", "#u8()", "'", "`a", ",", ",@a", "#0=", "#0=a"} {
			fails(t, deep(64, begin, amid, nest.end), begins(64, begin), api.ErrLong)
			fails(t, deep(64, begin, "#;"+amid, nest.end), begins(64, begin)+2, api.ErrLong)
		}
		fine(t, deep(63, begin, "#u8(1)", nest.end), 1, 63*nest.objects+1)
		fine(t, deep(63, begin, "#0=a", nest.end), 1, 63*nest.objects)
		fine(t, deep(63, begin, "'a", nest.end), 1, 63*nest.objects+2)
		fine(t, deep(64, begin, `"a"`, nest.end), 1, 64*nest.objects+1)
		fails(t, strings.Repeat(begin, 200), begins(64, begin), api.ErrLong)
		ends(t, strings.Repeat(begin, 64))
	}
}

// labelled is n labels, of different numbers.
func labelled(n int) string {
	var b strings.Builder
	for i := range n {
		b.WriteString("#" + digits(100+i) + "=")
	}
	return b.String()
}

// 17.1: data 64 deep, and 65 deep, by labels, and by all that makes them deep.
func TestDeepByAll(t *testing.T) {
	fine(t, labelled(64)+"a", 1, 0)
	fine(t, labelled(64)+"a #100# #163#", 3, 0)
	fine(t, "#99=(a) "+labelled(64)+"#99#", 2, 1)
	fails(t, labelled(65)+"a", 64*5, api.ErrLong)
	fails(t, labelled(64)+"()", 64*5, api.ErrLong)
	fails(t, labelled(64)+"'a", 64*5, api.ErrLong)
	fails(t, labelled(63)+"((", 63*5+1, api.ErrLong)
	fails(t, labelled(64)+"#100=a", 64*5, api.ErrTwice)
	fails(t, labelled(64)+"#100#", 64*5, api.ErrForm)
	mixed := strings.Repeat("(#('`,,@", 10)
	fine(t, "(#("+labelled(2)+mixed+"a"+strings.Repeat("))", 10)+"))", 1, 2+10*10)
	fails(t, "(#("+labelled(2)+mixed+"#u8()"+strings.Repeat("))", 10)+"))", 3+10+80, api.ErrLong)
	fails(t, "(#("+labelled(3)+mixed, 3+15+79-1, api.ErrLong)
	fine(t, deep(64, "(", "", ")"), 1, 63)
	fine(t, deep(64, "#(", "", ")"), 1, 64)
	fails(t, deep(65, "(", "", ")"), 64, api.ErrLong)
	fails(t, deep(65, "#(", "", ")"), 128, api.ErrLong)
}

// 17.1: what stands side by side, and what was closed, makes nothing deeper.
func TestDeepSideBySide(t *testing.T) {
	fine(t, strings.Repeat("()", 300), 300, 0)
	fine(t, strings.Repeat("'a ", 300), 300, 600)
	fine(t, deep(63, "(", strings.Repeat("(a)", 100), ")"), 1, 62+100+100)
	fine(t, deep(63, "(", strings.Repeat("'a ", 100), ")"), 1, 62+100+200)
	fine(t, deep(64, "(", "", ")")+deep(64, "#(", "", ")"), 2, 63+64)
	fine(t, deep(62, "(", "(a) #(b) #u8(1) 'c #0=d (e . #(f)) (g)", ")"), 1, 61+7+1+1+1+2+2+1)
	fails(t, deep(62, "(", "(a) #(b) #u8(1) 'c #0=d (e . #((f)) (g)", ")"), 62+31, api.ErrLong)
	fine(t, labelled(60)+"(a)"+" (((((b)))))", 2, 1+5)
}

// 17.1: skips make nothing deeper, but what is skipped lies in what is around.
func TestDeepSkips(t *testing.T) {
	fine(t, strings.Repeat("#;", 65)+strings.Repeat("a ", 65), 0, 0)
	fine(t, strings.Repeat("#;", 300)+strings.Repeat("a ", 301), 1, 0)
	fine(t, strings.Repeat("#;", 70)+deep(64, "(", "", ")")+strings.Repeat("a ", 69), 0, 0)
	fine(t, "#;"+deep(64, "(", "a", ")")+"b", 1, 0)
	fails(t, "#;"+deep(65, "(", "a", ")")+"b", 66, api.ErrLong)
	fine(t, deep(60, "(", "#;((((a))))", ")"), 1, 59)
	fails(t, deep(60, "(", "#;(((((a)))))", ")"), 66, api.ErrLong)
	fails(t, "#;#;"+deep(65, "'", "a", "")+"b", 68, api.ErrLong)
}
