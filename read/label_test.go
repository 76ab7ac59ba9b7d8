package read_test

import (
	"strings"
	"testing"

	"hibernacle/api"
)

// 17.1: a label's datum, told again.
func TestLabels(t *testing.T) {
	reads(t, "#0=a", 1, "a")
	reads(t, "#0= a", 1, "a")
	reads(t, "#999=1", 1, "1")
	reads(t, "#0=5 #0#", 2, "5 5")
	reads(t, "#0=a #0#", 2, "a a")
	reads(t, `#0=#\a #0# #0#`, 3, "#97 #97 #97")
	reads(t, "#0=#f #0#", 2, "#f #f")
	reads(t, "#0=() #0#", 2, "() ()")
	reads(t, `#0="a" #0# "a"`, 3, `0"a" @0 1"a"`)
	reads(t, "#0=(a) #0# (a)", 3, "0(a ()) @0 1(a ())")
	reads(t, "#0=#(a) #0#", 2, "0[a] @0")
	reads(t, "#0=#u8(1) #0#", 2, "0<1> @0")
	reads(t, "#0='a #0#", 2, "0(quote 1(a ())) @0")
	reads(t, "#007=(a) #7#", 2, "0(a ()) @0")
	reads(t, "#7=(a) #07#", 2, "0(a ()) @0")
	reads(t, "(#1=(a) #2=(b) #2# #1#)", 1, "0(1(a ()) 2(3(b ()) 4(@3 5(@1 ()))))")
	reads(t, "(#0=a . #0#)", 1, "0(a a)")
	reads(t, "(a . #0=(b)) #0#", 2, "0(a 1(b ())) @1")
	reads(t, "#(#0=(a) #(#0#))", 1, "0[1(a ()) 2[@1]]")
	reads(t, "'#0=(a) #0#", 2, "0(quote 1(2(a ()) ())) @2")
	reads(t, "((#0=(a))) (#0#)", 2, "0(1(2(a ()) ()) ()) 3(@2 ())")
}

// 17.1: labels of labels.
func TestLabelsOfLabels(t *testing.T) {
	reads(t, "#0=#1=a #0# #1#", 3, "a a a")
	reads(t, "#0=#1=(a) #0# #1#", 3, "0(a ()) @0 @0")
	reads(t, "#0=#1=(#0# #1#)", 1, "0(@0 1(@0 ()))")
	reads(t, "#0=#1=#2=#(#1# #2# #0#)", 1, "0[@0 @0 @0]")
	reads(t, "#0=(a) #1=#0# #1#", 3, "0(a ()) @0 @0")
	reads(t, "#0=(#1=#0# #1#)", 1, "0(@0 1(@0 ()))")
	reads(t, "#0=(#1=#2=#0# . #2#) #1#", 2, "0(@0 @0) @0")
	fails(t, "#0=#1=#0#", 6, api.ErrForm)
	fails(t, "#0=#1=#1#", 6, api.ErrForm)
	fails(t, "#0=#1=#2#", 6, api.ErrNone)
	fails(t, "#0=#1=#2=#0#", 9, api.ErrForm)
}

// 17.1: agains of what stands around them.
func TestRound(t *testing.T) {
	reads(t, "#0=(#0#)", 1, "0(@0 ())")
	reads(t, "#0=(#0# . #0#)", 1, "0(@0 @0)")
	reads(t, "#0=(a b . #0#)", 1, "0(a 1(b @0))")
	reads(t, "#0=(a #1=(b #0# #1#))", 1, "0(a 1(2(b 3(@0 4(@2 ()))) ()))")
	reads(t, "#0=(a . #1=(b . #1#))", 1, "0(a 1(b @1))")
	reads(t, "#0=#(#0# #0#)", 1, "0[@0 @0]")
	reads(t, "#0=#(#1=(#0# . #1#) #1#)", 1, "0[1(@0 @1) @1]")
	reads(t, "#0='#0#", 1, "0(quote 1(@0 ()))")
	reads(t, "#0=`,#0#", 1, "0(quasiquote 1(2(unquote 3(@0 ())) ()))")
	reads(t, "(#0=(1 . #0#) #0#)", 1, "0(1(1 @1) 2(@1 ()))")
}

// 17.1: agains of labels that aren't there, or only behind.
func TestNoLabel(t *testing.T) {
	fails(t, "#0#", 0, api.ErrNone)
	fails(t, "a #5# )", 2, api.ErrNone)
	fails(t, "#0=a #1#", 5, api.ErrNone)
	fails(t, "#1=a #10#", 5, api.ErrNone)
	fails(t, "(a . #0#)", 5, api.ErrNone)
	fails(t, "#(#0#)", 2, api.ErrNone)
	fails(t, "'#0#", 1, api.ErrNone)
	fails(t, "#0# #0=a", 0, api.ErrNone)
	fails(t, "(#0# . #0=a)", 1, api.ErrNone)
	fails(t, "#0=(#1# #1=a)", 4, api.ErrNone)
	fails(t, "(#0=a) (#2# #1=#0#)", 8, api.ErrNone)
	fails(t, "#;#0#", 2, api.ErrNone)
	fails(t, "#;(a #3#) b", 5, api.ErrNone)
}

// 17.1: agains of labels whose datum hasn't begun yet.
func TestNotBegun(t *testing.T) {
	fails(t, "#0=#0#", 3, api.ErrForm)
	fails(t, "(a #0=#0#)", 6, api.ErrForm)
	fails(t, "(a . #0=#0#)", 8, api.ErrForm)
	fails(t, "#0=#;#0# a", 5, api.ErrForm)
	fails(t, "#0=#;(#0#) (a)", 6, api.ErrForm)
	fails(t, "#0=#;'#0# (a)", 6, api.ErrForm)
	fails(t, "#0=#;#1=#0# a", 8, api.ErrForm)
	fails(t, "#0=#1=#;#0# a", 8, api.ErrForm)
	fails(t, "#0=(a #1=#;#1# b)", 11, api.ErrForm)
	reads(t, "#0=#;a (b #0#)", 1, "0(b 1(@0 ()))")
	reads(t, "#0=(#;#0# b)", 1, "0(b ())")
	reads(t, "#0=(#;#0#)", 1, "()")
}

// 17.1: a label's number that was one's ahead.
func TestTwice(t *testing.T) {
	fails(t, "#0=a #0=b", 5, api.ErrTwice)
	fails(t, "#0=a #00=b", 5, api.ErrTwice)
	fails(t, "#0=#0=a", 3, api.ErrTwice)
	fails(t, "#0=(a #0=b)", 6, api.ErrTwice)
	fails(t, "(#0=a) (#0=b)", 8, api.ErrTwice)
	fails(t, "(#0=a . #0=b)", 8, api.ErrTwice)
	fails(t, "#(#0=a #1=b #0=c)", 12, api.ErrTwice)
	fails(t, "#0='#0=a", 4, api.ErrTwice)
	fails(t, "#0=a #0=", 5, api.ErrTwice)
	fails(t, "#0=a #0=)", 5, api.ErrTwice)
	reads(t, "#0=a #1=b #10=c", 3, "a b c")
}

// 17.1: what is skipped has labels of its own, and knows those outside.
func TestSkippedLabels(t *testing.T) {
	fails(t, "#;#0=a #0#", 7, api.ErrNone)
	fails(t, "#;(#0=a) #0#", 9, api.ErrNone)
	fails(t, "(#;#0=(a) b #0#)", 12, api.ErrNone)
	fails(t, "#;#;#0=a #0# b", 9, api.ErrNone)
	fails(t, "#;#0=a #;#0#", 9, api.ErrNone)
	fails(t, "#;(#0=a #;#1=b #1#)", 15, api.ErrNone)
	fails(t, "#0=a #;#0=b", 7, api.ErrTwice)
	fails(t, "#0=(a #;#0=b)", 8, api.ErrTwice)
	fails(t, "#0=#;#0=a b", 5, api.ErrTwice)
	fails(t, "#;(#0=a #0=b)", 8, api.ErrTwice)
	fails(t, "#;(#0=a #;#0=b)", 10, api.ErrTwice)
	fails(t, "#;#1=a #0=b #0=c", 12, api.ErrTwice)
	fails(t, "#;#0=#0# a", 5, api.ErrForm)
	reads(t, "#;#0=a #0=b #0#", 2, "b b")
	reads(t, "#;#0=a #;#0=b #0=(c) #0#", 2, "0(c ()) @0")
	reads(t, "#;#0=a #;#0=b", 0, "")
	reads(t, "#;#;#0=a #0=b #0=c", 1, "c")
	reads(t, "#0=(a) #;#0# #0#", 2, "0(a ()) @0")
	reads(t, "#0=(a #;(#0# #1=#0# #1#) #1=b #1#)", 1, "0(a 1(b 2(b ())))")
	reads(t, "#;(#0=(a . #0#) #0#) b", 1, "b")
	reads(t, "(#0=a #;(#1=b #;(#1# #0# #2=c #2#) #2=d) #1=e #2=f)", 1, "0(a 1(e 2(f ())))")
	reads(t, "#0=#;#1=x #1=(#0# #1#)", 1, "0(@0 1(@0 ()))")
}

// 17.1: labels that have no datum.
func TestBareLabels(t *testing.T) {
	ends(t, "#0=")
	ends(t, "(#0=")
	ends(t, "#0=#1=")
	ends(t, "#0=#;a")
	ends(t, "#0=#;")
	ends(t, "#0='")
	fails(t, "(#0=)", 4, api.ErrForm)
	fails(t, "#0=)", 3, api.ErrForm)
	fails(t, "(a #0= . b)", 7, api.ErrForm)
	fails(t, "#(#0=#;a)", 8, api.ErrForm)
}

// 17.1: all numbers that a label may have, each told again.
func TestManyLabels(t *testing.T) {
	var text, want strings.Builder
	for i := range 300 {
		text.WriteString("#" + digits(i+700) + "=a")
		text.WriteString(" #" + digits(i+700) + "# ")
		want.WriteString("a a ")
	}
	reads(t, text.String(), 600, strings.TrimSpace(want.String()))
	fails(t, text.String()+"#1000=a", 3900, api.ErrForm)
	fails(t, text.String()+"#699#", 3900, api.ErrNone)
	fails(t, text.String()+"#999=a", 3900, api.ErrTwice)
}

// 17.3: what is labelled, and told again, is one thing: a change of the one is
// one of the other.
func TestOneThing(t *testing.T) {
	w := newWorld(t, 30)
	vals := w.all(`(#0=(a) #1="b" #2=#(c) #3=#u8(4) #0# #1# #2# #3# . #0#)`)
	list := w.items(vals[0], 8)
	for i := range 4 {
		if list[i] != list[i+4] {
			t.Fatalf("the label %d: %v, %v", i, list[i], list[i+4])
		}
	}
	seven := api.Val{K: api.Int, N: 7}
	w.h.Set(list[0], 0, seven)
	w.h.SetByte(list[1], 0, 'x')
	w.h.Set(list[2], 0, seven)
	w.h.SetByte(list[3], 0, 9)
	if got, _ := w.sketch(list[4:]); got != `0(7 ()) 1"x" 2[7] 3<9>` {
		t.Fatal("told again:", got)
	}
}
