package lex_test

import (
	"strings"
	"testing"

	"hibernacle/api"
	"hibernacle/lex"
)

// marks are the marks' texts.
func marks() map[lex.Kind]string {
	return map[lex.Kind]string{
		lex.Open: "(", lex.Close: ")", lex.Vector: "#(", lex.Bytes: "#u8(", lex.Quote: "'",
		lex.Quasi: "`", lex.Unquote: ",", lex.Splice: ",@", lex.Skip: "#;",
	}
}

// Kinds are numbered from 0 on, in the order in which the chapter names them.
func TestKinds(t *testing.T) {
	list := []lex.Kind{
		lex.Open, lex.Close, lex.Vector, lex.Bytes, lex.Quote, lex.Quasi, lex.Unquote, lex.Splice,
		lex.Skip, lex.Dot, lex.Int, lex.Bool, lex.Char, lex.String, lex.Symbol, lex.Label, lex.Again,
	}
	for i, k := range list {
		if int(k) != i {
			t.Fatalf("the kind %d has the number %d", i, k)
		}
	}
}

// 16.1: the chapter's example.
func TestExample(t *testing.T) {
	stands(t, `(car '(1 . #\a))`,
		at(0, mark(lex.Open)), at(1, symbol("car")), at(5, mark(lex.Quote)), at(6, mark(lex.Open)), at(7, whole(1)),
		at(9, mark(lex.Dot)), at(11, char(97)), at(14, mark(lex.Close)), at(15, mark(lex.Close)))
}

// 16.1: nothing, and blanks alone, have no tokens.
func TestBlanksAlone(t *testing.T) {
	for _, s := range []string{"", " ", "\t", "\n", "\f", "\r", "\t\n\f\r ", strings.Repeat(" \n", 2048)} {
		scans(t, s)
	}
}

// 16.1: each of the five blanks stands between tokens, and no other byte does.
func TestBlanks(t *testing.T) {
	for c := range 256 {
		s := "a" + string([]byte{byte(c)}) + "b"
		switch {
		case strings.IndexByte("\t\n\f\r ", byte(c)) >= 0:
			stands(t, s, at(0, symbol("a")), at(2, symbol("b")))
			scans(t, s[1:2]+s+s[1:2]+s[1:2]+"(", symbol("a"), symbol("b"), mark(lex.Open))
		case c == '(':
			scans(t, s, symbol("a"), mark(lex.Open), symbol("b"))
		case c == ')':
			scans(t, s, symbol("a"), mark(lex.Close), symbol("b"))
		case c == ';':
			scans(t, s, symbol("a"))
		case c == '"':
			fails(t, s, 1, api.ErrEnd)
		case c == '#':
			fails(t, s, 0, api.ErrForm)
		case strings.IndexByte(wordBytes, byte(c)) >= 0:
			scans(t, s, symbol(s))
		default:
			fails(t, s, 1, api.ErrForm)
		}
	}
}

// 16.1: a byte that begins nothing, wherever it stands.
func TestBeginsNothing(t *testing.T) {
	for c := range 256 {
		s := string([]byte{byte(c)})
		if strings.Contains(wordBytes+"\t\n\f\r ()'`,;\"#", s) {
			continue
		}
		fails(t, s, 0, api.ErrForm)
		fails(t, s+"a", 0, api.ErrForm)
		fails(t, "(a "+s, 3, api.ErrForm)
		fails(t, "'"+s+")", 1, api.ErrForm)
	}
}

// 16.1: a text may have 4096 bytes; of one more nothing is told, whatever is
// wrong with it.
func TestLongText(t *testing.T) {
	l, place, e := lex.Scan(strings.Repeat("(", 4096))
	if len(l) != 4096 || l[4095] != at(4095, mark(lex.Open)) || place != 4096 || e != api.OK {
		t.Fatal("a text of 4096 bytes:", len(l), place, e)
	}
	scans(t, strings.Repeat(" ", 4095)+"a", symbol("a"))
	scans(t, `"`+strings.Repeat("a", 4094)+`"`, quoted(strings.Repeat("a", 4094)))
	for _, s := range []string{" ", "(", "a", "9", `"`, "\x80", "]"} {
		fails(t, strings.Repeat(s, 4097), 0, api.ErrLong)
	}
	fails(t, strings.Repeat(" ", 5000)+"\xff", 0, api.ErrLong)
	fails(t, strings.Repeat(" ", 4095)+"]", 4095, api.ErrForm)
}

// 16.1: each mark by itself, and each one behind each other one.
func TestMarks(t *testing.T) {
	for k, s := range marks() {
		stands(t, s, mark(k))
		stands(t, " "+s+" a", at(1, mark(k)), at(2+len(s), symbol("a")))
		stands(t, s+"a", mark(k), at(len(s), symbol("a")))
		stands(t, s+`"a"`, mark(k), at(len(s), quoted("a")))
		stands(t, s+"#1=#1#", mark(k), at(len(s), label(1)), at(len(s)+3, again(1)))
		for other, rest := range marks() {
			stands(t, s+rest, mark(k), at(len(s), mark(other)))
		}
	}
}

// 16.1: marks of which one is the beginning of another one.
func TestMarksWithin(t *testing.T) {
	stands(t, ",@", mark(lex.Splice))
	stands(t, ", @", mark(lex.Unquote), at(2, symbol("@")))
	stands(t, ",@@", mark(lex.Splice), at(2, symbol("@")))
	stands(t, ",,@,", mark(lex.Unquote), at(1, mark(lex.Splice)), at(3, mark(lex.Unquote)))
	stands(t, ",a@", mark(lex.Unquote), at(1, symbol("a@")))
	stands(t, "#(#u8(#;", mark(lex.Vector), at(2, mark(lex.Bytes)), at(6, mark(lex.Skip)))
	stands(t, "#;;(\n(", mark(lex.Skip), at(5, mark(lex.Open)))
	stands(t, "#;#;", mark(lex.Skip), at(2, mark(lex.Skip)))
	stands(t, "#;#||##;", mark(lex.Skip), at(6, mark(lex.Skip)))
	for _, s := range []string{"#", "##", "# (", "#)", "#u", "#u8", "#u8 (", "#u(", "#U8(", "#u9(", "#u8)", "##(", "#'", "#,@", "#\"a\"", "#=", "#@"} {
		fails(t, s, 0, api.ErrForm)
		fails(t, "( "+s, 2, api.ErrForm)
	}
	fails(t, "a#(", 0, api.ErrForm)
	fails(t, "a#;", 0, api.ErrForm)
	fails(t, "1#|x|#", 0, api.ErrForm)
}

// 16.1: remarks that a line feed ends, or the text's end.
func TestLineRemarks(t *testing.T) {
	stands(t, "; a ( \" #| \\ |# ]\nb", at(18, symbol("b")))
	scans(t, ";")
	scans(t, ";;;")
	scans(t, "; a")
	scans(t, ";\n;\n")
	stands(t, ";\ra\n\nb;c", at(5, symbol("b")))
	stands(t, "a;b\n;c\nd", at(0, symbol("a")), at(7, symbol("d")))
	stands(t, `"a";"b"`, quoted("a"))
	stands(t, "#1#;2", again(1))
	stands(t, "#1=;2\n3", label(1), at(6, whole(3)))
	fails(t, "; a\x80", 3, api.ErrForm)
	fails(t, ";\n;\xff\n", 3, api.ErrForm)
	for c := range 128 {
		if c != '\n' {
			scans(t, ";"+string(rune(c))+"]")
		}
	}
}

// 16.1: remarks in `#|` and `|#`, within each other and side by side.
func TestRemarks(t *testing.T) {
	scans(t, "#||#")
	scans(t, "#|||#")
	scans(t, "#|#||#|#")
	scans(t, "#| a #| b |# c |#")
	scans(t, "#| #| |# #| #| |# |# |#")
	scans(t, "#||##||#")
	scans(t, "#|||||#")
	scans(t, "#|#|||#|#")
	scans(t, "#| ; |#")
	scans(t, "#| \" |#")
	scans(t, "#| \\ ] |#")
	scans(t, strings.Repeat("#|", 1024)+strings.Repeat("|#", 1024))
	stands(t, "#|\n|#a", at(5, symbol("a")))
	stands(t, "a #| b |# c", at(0, symbol("a")), at(10, symbol("c")))
	stands(t, "(#||#)", mark(lex.Open), at(5, mark(lex.Close)))
	stands(t, "#||##t", at(4, truth(1)))
	stands(t, "#||##1=#||#2", at(4, label(1)), at(11, whole(2)))
	stands(t, "; #|\na", at(5, symbol("a")))
	fails(t, "#||#|#", 4, api.ErrForm)
	fails(t, "|#", 0, api.ErrForm)
	fails(t, "#| \x80 |#", 3, api.ErrForm)
	fails(t, "#| #| |# \xff |#", 9, api.ErrForm)
}

// 16.1: remarks that aren't ended, also within one that would be.
func TestRemarksNotEnded(t *testing.T) {
	for _, s := range []string{"#|", "#| ", "#|#", "#|#|", "#||", "#| #| |#", "#|#||#", "#| a #| b |# c", "#| #| #| |# |#", "#| |\n#", "#| \xff", "#| \"\\q"} {
		fails(t, s, 0, api.ErrEnd)
		fails(t, "a "+s, 2, api.ErrEnd)
		fails(t, "(#||#"+s, 5, api.ErrEnd)
	}
	fails(t, "#||##|", 4, api.ErrEnd)
}
