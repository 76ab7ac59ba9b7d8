package read_test

import (
	"strings"
	"testing"

	"hibernacle/api"
)

// 17.1: the chapter's examples.
func TestExamples(t *testing.T) {
	reads(t, "#0=(1 . #0#)", 1, "0(1 @0)")
	reads(t, "'x", 1, "0(quote 1(x ()))")
}

// 17.1: texts without a datum.
func TestNothing(t *testing.T) {
	for _, s := range []string{"", " ", "\n\t\f\r ", "; a", "; a\n ;", "#||#", " #| #| a |# ( |# ;)", "#;a", "#;(a b)", "#;#;a b #;c", " #;'a ;b\n", "#;#0=a #;#0=b", `#;"a" #;#()#;#u8(1)`} {
		reads(t, s, 0, "")
	}
}

// 17.1: words, each by itself.
func TestWords(t *testing.T) {
	for s, want := range map[string]string{
		"0": "0", "-5": "-5", "+7": "7", "#xff": "255", "#b-101": "-5",
		"9223372036854775807": "9223372036854775807", "-9223372036854775808": "-9223372036854775808",
		"#t": "#t", "#true": "#t", "#f": "#f", "#false": "#f",
		`#\a`: "#97", `#\space`: "#32", `#\nul`: "#0", `#\x7f`: "#127", `#\(`: "#40", `#\)`: "#41", `#\;`: "#59", `#\.`: "#46",
		"a": "a", "+": "+", "...": "...", "quote": "quote", "->b": "->b", "A": "A",
		strings.Repeat("z", 32): strings.Repeat("z", 32),
		"()":                    "()", "( )": "()", "(;)\n)": "()",
	} {
		reads(t, s, 1, want)
		reads(t, " "+s+"\n", 1, want)
		reads(t, s+" "+s, 2, want+" "+want)
	}
}

// 17.1: strings, of which each is a new object.
func TestStrings(t *testing.T) {
	reads(t, `""`, 1, `0""`)
	reads(t, `"ab"`, 1, `0"ab"`)
	reads(t, `"a\n\"\\\x0;b"`, 1, `0"a\n\"\\\x00b"`)
	reads(t, `"a" "a"`, 2, `0"a" 1"a"`)
	reads(t, `("" "")`, 1, `0(1"" 2(3"" ()))`)
	long := strings.Repeat("a", 4094)
	reads(t, `"`+long+`"`, 1, `0"`+long+`"`)
}

// 17.1: lists are chains of new pairs.
func TestLists(t *testing.T) {
	reads(t, "(1)", 1, "0(1 ())")
	reads(t, "(1 2 3)", 1, "0(1 1(2 2(3 ())))")
	reads(t, "(())", 1, "0(() ())")
	reads(t, "(()())", 1, "0(() 1(() ()))")
	reads(t, "((1) (2 3) 4)", 1, "0(1(1 ()) 2(3(2 4(3 ())) 5(4 ())))")
	reads(t, "(a)(a)", 2, "0(a ()) 1(a ())")
	reads(t, `(1 #t #\a "b" c)`, 1, `0(1 1(#t 2(#97 3(4"b" 5(c ())))))`)
	reads(t, "(quote x)", 1, "0(quote 1(x ()))")
	many := "(" + strings.Repeat("1 ", 2047) + ")"
	reads(t, many, 1, countUp(2047, func(i int) string { return "(1 " })+"()"+strings.Repeat(")", 2047))
}

// countUp is numbers from 0 on, with something behind each.
func countUp(n int, behind func(i int) string) string {
	var b strings.Builder
	for i := range n {
		b.WriteString(digits(i))
		b.WriteString(behind(i))
	}
	return b.String()
}

// digits is a number's text.
func digits(i int) string {
	if i < 10 {
		return string(rune('0' + i))
	}
	return digits(i/10) + digits(i%10)
}

// 17.1: lists with a dot.
func TestDots(t *testing.T) {
	reads(t, "(1 . 2)", 1, "0(1 2)")
	reads(t, "(1 2 . 3)", 1, "0(1 1(2 3))")
	reads(t, "(1 . ())", 1, "0(1 ())")
	reads(t, "(1 . (2 3))", 1, "0(1 1(2 2(3 ())))")
	reads(t, "(1 . (2 . 3))", 1, "0(1 1(2 3))")
	reads(t, "(() . ())", 1, "0(() ())")
	reads(t, `(a . "b")`, 1, `0(a 1"b")`)
	reads(t, "(a . 'b)", 1, "0(a 1(quote 2(b ())))")
	reads(t, "(a . #(b))", 1, "0(a 1[b])")
	reads(t, "(a.b . c.d)", 1, "0(a.b c.d)")
	reads(t, "((1 . 2) . (3 . 4))", 1, "0(1(1 2) 2(3 4))")
	reads(t, "(a . #0=(b . #0#))", 1, "0(a 1(b @1))")
}

// 17.1: what is skipped by a list with a dot, wherever the grammar has it.
func TestDotsAndSkips(t *testing.T) {
	reads(t, "(#;0 1 . 2)", 1, "0(1 2)")
	reads(t, "(1 #;0 . 2)", 1, "0(1 2)")
	reads(t, "(1 . #;0 2)", 1, "0(1 2)")
	reads(t, "(1 . #;0 #;(a . b) 2)", 1, "0(1 2)")
	reads(t, "(1 . 2 #;0)", 1, "0(1 2)")
	reads(t, "(1 . 2 #;0 #;'a)", 1, "0(1 2)")
	reads(t, "(#;a 1 #;a . #;a 2 #;a)", 1, "0(1 2)")
	fails(t, "(#;0 . 2)", 5, api.ErrForm)
	fails(t, "(1 . #;2)", 8, api.ErrForm)
	fails(t, "(1 #;. 2)", 5, api.ErrForm)
	fails(t, "(1 . 2 #;)", 9, api.ErrForm)
	fails(t, "(1 . #;)", 7, api.ErrForm)
	ends(t, "(1 . 2 #;3")
	ends(t, "(1 . #;2")
	ends(t, "(1 . 2 #;")
}

// 17.1: dots that the grammar can't go on by, or not behind.
func TestWrongDots(t *testing.T) {
	fails(t, "(1 . )", 5, api.ErrForm)
	fails(t, ".", 0, api.ErrForm)
	fails(t, "a . b", 2, api.ErrForm)
	fails(t, "( . a)", 2, api.ErrForm)
	fails(t, "(.)", 1, api.ErrForm)
	fails(t, "(1 . 2 3)", 7, api.ErrForm)
	fails(t, "(1 . 2 . 3)", 7, api.ErrForm)
	fails(t, "(1 . . 3)", 5, api.ErrForm)
	fails(t, "(1 . 2 '", 7, api.ErrForm)
	fails(t, "(1 . 2 (", 7, api.ErrForm)
	fails(t, `(1 . 2 "a")`, 7, api.ErrForm)
	fails(t, "(1 . 2 #0=3)", 7, api.ErrForm)
	fails(t, "#(1 . 2)", 4, api.ErrForm)
	fails(t, "#( . 2)", 3, api.ErrForm)
	fails(t, "#u8(1 . 2)", 6, api.ErrForm)
	fails(t, "#u8( . )", 5, api.ErrForm)
	fails(t, "#;.", 2, api.ErrForm)
	fails(t, "(a #0=. b)", 6, api.ErrForm)
	ends(t, "(1 .")
	ends(t, "(1 . 2")
	ends(t, "(1 . 2 ")
}

// 17.1: vectors, of at most 256 data.
func TestVectors(t *testing.T) {
	reads(t, "#()", 1, "0[]")
	reads(t, "#( )", 1, "0[]")
	reads(t, "#()#()", 2, "0[] 1[]")
	reads(t, "#(1)", 1, "0[1]")
	reads(t, `#(1 a "b" #\c #f ())`, 1, `0[1 a 1"b" #99 #f ()]`)
	reads(t, "#(#(1) (2) #u8(3))", 1, "0[1[1] 2(2 ()) 3<3>]")
	reads(t, "#(#;a)", 1, "0[]")
	reads(t, "#(#;a 1 #;b 2 #;c)", 1, "0[1 2]")
	reads(t, "(#(1) . #(2))", 1, "0(1[1] 2[2])")
	of := func(n int, more string) string { return "#(" + strings.Repeat("7 ", n) + more + ")" }
	want := "0[" + strings.TrimSpace(strings.Repeat("7 ", 256)) + "]"
	reads(t, of(256, ""), 1, want)
	reads(t, of(256, "#;8"), 1, want)
	reads(t, of(256, "#;8 #;(9 9)"), 1, want)
	reads(t, "("+strings.Repeat("7 ", 257)+")", 1, countUp(257, func(int) string { return "(7 " })+"()"+strings.Repeat(")", 257))
}

// 17.1: the first datum of a vector beyond 256, whatever it is.
func TestLongVectors(t *testing.T) {
	for _, s := range []string{"7", "a", "#t", `#\a`, `"a"`, "(", "()", "#(", "#u8(1)", "'a", "'", "`", ",", ",@", "#0=a", "#0=", "#9#", "#9# .", "8 8 8"} {
		fails(t, "#9=#("+strings.Repeat("7 ", 256)+s, 517, api.ErrLong)
		fails(t, "#9=#("+strings.Repeat("7 ", 256)+"#;8 "+s+")", 521, api.ErrLong)
	}
	fails(t, "#("+strings.Repeat("7 ", 1000)+")", 514, api.ErrLong)
	fails(t, "(#("+strings.Repeat("()", 256)+"#;#("+strings.Repeat("()", 257)+"))", 3+512+4+512, api.ErrLong)
	ends(t, "#("+strings.Repeat("7 ", 256))
	ends(t, "#("+strings.Repeat("7 ", 256)+"#;")
}

// 17.1: of several faults of the first datum of a vector beyond 256 the one is
// told that is named first.
func TestLongVectorsElse(t *testing.T) {
	full := "#9=#(" + strings.Repeat("7 ", 256)
	fails(t, full+".", 517, api.ErrForm)
	fails(t, full+"#1#", 517, api.ErrNone)
	fails(t, full+"#9=a", 517, api.ErrTwice)
	fails(t, "#1="+full+"#9#", 520, api.ErrLong)
	fails(t, full+"#;)", 519, api.ErrForm)
}

// 17.1: bytes are numbers from 0 to 255.
func TestBytes(t *testing.T) {
	reads(t, "#u8()", 1, "0<>")
	reads(t, "#u8( )", 1, "0<>")
	reads(t, "#u8()#u8()", 2, "0<> 1<>")
	reads(t, "#u8(0)", 1, "0<0>")
	reads(t, "#u8(0 1 127 128 255)", 1, "0<0 1 127 128 255>")
	reads(t, "#u8(#xff #b101 +5 -0)", 1, "0<255 5 5 0>")
	reads(t, "#u8(#;a)", 1, "0<>")
	reads(t, "#u8(#;a 1 #;(256 . -1) 2 #;'b)", 1, "0<1 2>")
	reads(t, "(#u8(1) . #u8(1))", 1, "0(1<1> 2<1>)")
	many := strings.TrimSpace(strings.Repeat("9 ", 257))
	reads(t, "#u8("+many+")", 1, "0<"+many+">")
	many = strings.TrimSpace(strings.Repeat("9 ", 2045))
	reads(t, "#u8("+many+")", 1, "0<"+many+">")
	ends(t, "#u8("+strings.Repeat(" ", 4091)+"1")
}

// 17.1: what may not stand in bytes.
func TestWrongBytes(t *testing.T) {
	for _, s := range []string{"-1", "256", "1000", "9223372036854775807", "-9223372036854775808", "#x100", "a", "#t", "#f", `#\a`, `"a"`, "(", "()", "(1)", "#(", "#(1)", "#u8(", "#u8(1)", "'1", "`1", ",1", ",@1", "#0=1", "#0#", "#9#", "#9=1", "."} {
		fails(t, "#9=(1 #u8("+s, 10, api.ErrForm)
		fails(t, "#9=(1 #u8(1 2 #;3 "+s+" 4))", 18, api.ErrForm)
	}
}

// 17.1: each of the four marks makes a list of two.
func TestMarks(t *testing.T) {
	for mark, name := range map[string]string{"'": "quote", "`": "quasiquote", ",": "unquote", ",@": "unquote-splicing"} {
		reads(t, mark+"a", 1, "0("+name+" 1(a ()))")
		reads(t, mark+" a", 1, "0("+name+" 1(a ()))")
		reads(t, mark+";b\na", 1, "0("+name+" 1(a ()))")
		reads(t, mark+"()", 1, "0("+name+" 1(() ()))")
		reads(t, mark+`"a"`, 1, "0("+name+` 1(2"a" ()))`)
		reads(t, mark+"(1 . 2)", 1, "0("+name+" 1(2(1 2) ()))")
		reads(t, mark+"#(1)", 1, "0("+name+" 1(2[1] ()))")
		reads(t, mark+"#u8(1)", 1, "0("+name+" 1(2<1> ()))")
		reads(t, mark+"'a", 1, "0("+name+" 1(2(quote 3(a ())) ()))")
		reads(t, "`"+mark+" a", 1, "0(quasiquote 1(2("+name+" 3(a ())) ()))")
		reads(t, mark+"#;b a", 1, "0("+name+" 1(a ()))")
		reads(t, mark+"#;b #;(c) a b", 2, "0("+name+" 1(a ())) b")
		reads(t, mark+"#0=a", 1, "0("+name+" 1(a ()))")
		reads(t, "#0="+mark+"#0#", 1, "0("+name+" 1(@0 ()))")
		reads(t, "(1 "+mark+"a 2)", 1, "0(1 1(2("+name+" 3(a ())) 4(2 ())))")
		reads(t, "#("+mark+"a)", 1, "0[1("+name+" 2(a ()))]")
		reads(t, "#;"+mark+"a b", 1, "b")
		n := len(mark)
		fails(t, mark+")", n, api.ErrForm)
		fails(t, "("+mark+")", 1+n, api.ErrForm)
		fails(t, mark+" .", n+1, api.ErrForm)
		fails(t, "(a "+mark+" . b)", 4+n, api.ErrForm)
		fails(t, mark+"#;a)", n+3, api.ErrForm)
		ends(t, mark)
		ends(t, mark+" ")
		ends(t, mark+"#;a")
		ends(t, "a "+mark+"#;")
		ends(t, "("+mark)
	}
}

// 17.1: brackets that aren't closed, or closed too often.
func TestBrackets(t *testing.T) {
	for _, s := range []string{"(", "#(", "#u8("} {
		ends(t, s)
		ends(t, s+" ")
		ends(t, s+"1")
		ends(t, s+"1 2 ")
		ends(t, s+"#;a ;)")
		ends(t, "("+s+")")
		ends(t, "(1 ("+s+"1)2)")
		ends(t, "(1 . "+s)
		ends(t, "'"+s)
		ends(t, "#0="+s)
		ends(t, "#;"+s)
		fails(t, s+"))", len(s)+1, api.ErrForm)
		fails(t, s+"1)2)", len(s)+3, api.ErrForm)
		fails(t, s+")#;)", len(s)+3, api.ErrForm)
	}
	fails(t, ")", 0, api.ErrForm)
	fails(t, "a )", 2, api.ErrForm)
	fails(t, "#;a )", 4, api.ErrForm)
	fails(t, ") a", 0, api.ErrForm)
	fails(t, "(1))(", 3, api.ErrForm)
	fails(t, "(1 . 2))", 7, api.ErrForm)
}

// 17.1: many data, in order.
func TestMany(t *testing.T) {
	reads(t, `1 a "b" (c) #(d) #u8(5) 'e #t #\f () #0=g #0#`, 12, `1 a 0"b" 1(c ()) 2[d] 3<5> 4(quote 5(e ())) #t #102 () g g`)
	reads(t, "(1)2(3)", 3, "0(1 ()) 2 1(3 ())")
	reads(t, "'a 'b", 2, "0(quote 1(a ())) 2(quote 3(b ()))")
	reads(t, strings.Repeat("()", 2048), 2048, strings.TrimSpace(strings.Repeat("() ", 2048)))
	reads(t, strings.Repeat("#;", 1024)+strings.Repeat("a ", 1024), 0, "")
}

// 17.1: what is skipped.
func TestSkips(t *testing.T) {
	reads(t, "#;a b", 1, "b")
	reads(t, "a #;b", 1, "a")
	reads(t, "#; a b", 1, "b")
	reads(t, "#;;c\na b", 1, "b")
	reads(t, "#;(a b) c", 1, "c")
	reads(t, `#;"a" c`, 1, "c")
	reads(t, "#;'a b", 1, "b")
	reads(t, "#;#0=a b", 1, "b")
	reads(t, "#;a #;b c", 1, "c")
	reads(t, "#;#;a b c", 1, "c")
	reads(t, "#;#;#;a b c d e", 2, "d e")
	reads(t, "#;#;a #;b c d", 1, "d")
	reads(t, "(#;a)", 1, "()")
	reads(t, "(#;a #;b)", 1, "()")
	reads(t, "(#;a 1 #;#;b c 2 #;d)", 1, "0(1 1(2 ()))")
	reads(t, "#0=#;a (1 . #0#)", 1, "0(1 @0)")
	reads(t, "#;(a #;b c) d", 1, "d")
	reads(t, "(1 (2 #;(3 #;4)) #;5 . #;6 7)", 1, "0(1 1(2(2 ()) 7))")
}

// 17.1: what is skipped has to be a datum, too.
func TestWrongSkips(t *testing.T) {
	ends(t, "#;")
	ends(t, "a #; ")
	ends(t, "#;#;a")
	ends(t, "#;#;")
	ends(t, "#;#;#;a b")
	ends(t, "(#;")
	ends(t, "(#;a")
	ends(t, "#;(")
	ends(t, "#;(a")
	fails(t, "(#;)", 3, api.ErrForm)
	fails(t, "#(#;)", 4, api.ErrForm)
	fails(t, "#u8(1 #;)", 8, api.ErrForm)
	fails(t, "(#;#;a)", 6, api.ErrForm)
	fails(t, "#;)", 2, api.ErrForm)
	fails(t, "#;(1 . )", 7, api.ErrForm)
	fails(t, "#;#u8(a)", 6, api.ErrForm)
	fails(t, "#;#u8(256)", 6, api.ErrForm)
	fails(t, "#;#("+strings.Repeat("1 ", 257)+")", 516, api.ErrLong)
}
