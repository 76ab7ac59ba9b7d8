package read_test

import (
	"fmt"
	"slices"
	"strings"
	"testing"

	"hibernacle/api"
	"hibernacle/read"
	"hibernacle/sym"
)

// almost is a table with room for some names more; the first one is "was-there".
func almost(t *testing.T, room int) *sym.Table {
	t.Helper()
	x := sym.New()
	x.Number("was-there")
	for i := 1; x.Len() < api.MaxCells-room; i++ {
		x.Number(fmt.Sprint("name", i))
	}
	if x.Len() != api.MaxCells-room {
		t.Fatal("names:", x.Len())
	}
	return x
}

// 17.1, 17.2: a table with room for just all new symbols, and for all but one; a
// symbol that is there, that stands twice, or that is skipped, needs none.
func TestRoomForSymbols(t *testing.T) {
	full, one, two := almost(t, 0), almost(t, 1), almost(t, 2)
	for _, r := range []struct {
		x    *sym.Table
		s    string
		fits bool
	}{
		{full, "", true}, {full, "1", true}, {full, "(1 \"a\" #\\a #u8(1))", true}, {full, "was-there", true}, {full, "(name9 name10 name9)", true},
		{full, "#;a", true}, {full, "(#;a was-there #;'a)", true},
		{full, "a", false}, {full, "(was-there a)", false}, {full, "'1", false}, {full, "#0=a", false}, {full, "(1 . a)", false}, {full, "#(a)", false},
		{one, "a", true}, {one, "(a a was-there a)", true}, {one, "(a #;b a)", true}, {one, "'1", true}, {one, "''1", true}, {one, "'quote", true}, {one, "(quote '1)", true}, {one, "#0=a", true}, {one, "(#0=a #0#)", true},
		{one, "(a b)", false}, {one, "'a", false}, {one, "'`1", false}, {one, ",,@1", false}, {one, "(a A)", false},
		{two, "(a b)", true}, {two, "'a", true}, {two, "`(,1 ,2)", true}, {two, "(a b . a)", true},
		{two, "(a b c)", false}, {two, "('a b)", false}, {two, "`(,1 ,@2)", false},
	} {
		w := newWorld(t, 20)
		w.x = r.x.Copy()
		if !r.fits {
			w.refuses(r.s, len(r.s), api.ErrFull)
			continue
		}
		had := names(w.x)
		if _, place, e := read.All(w.h, w.x, r.s); place != len(r.s) || e != api.OK || !slices.Equal(names(w.x)[:len(had)], had) {
			t.Fatalf("All(%q) with a table of %d names: %d, %d", r.s, len(had), place, e)
		}
	}
}

// 17.1: room is asked behind each fault, and an error of One's own behind that.
func TestRoomLast(t *testing.T) {
	for _, s := range []string{"(a)", "(a) (b)", `"a" "b" "c"`, "'a"} {
		w := newWorld(t, 0)
		w.refuses(s, len(s), api.ErrFull)
		w.refuses(s+")", len(s), api.ErrForm)
		w.refuses(s+" ]", len(s)+1, api.ErrForm)
		w.refuses(s+" (", len(s)+2, api.ErrEnd)
	}
	w := newWorld(t, 9)
	w.x = almost(t, 0)
	w.refuses("a b", 3, api.ErrFull)
	w.refuses("a #0#", 2, api.ErrNone)
	w.h, w.x = newWorld(t, 0).h, almost(t, 1)
	w.refuses("a b", 3, api.ErrFull)
	w.refuses("(a)", 3, api.ErrFull)
	if v, place, e := read.One(w.h, w.x, "a a"); v != (api.Val{}) || place != 3 || e != api.ErrLong || w.x.Len() != api.MaxCells-1 {
		t.Fatalf("One: %v, %d, %d", v, place, e)
	}
}

// 17.1: symbols that are there keep their numbers; new ones are numbered in their
// order; what is skipped has none.
func TestSymbolsInOrder(t *testing.T) {
	numbers(t, "a b c", nil, "a", "b", "c")
	numbers(t, "(c (b) . a)", nil, "c", "b", "a")
	numbers(t, "#(z #(y) x)", nil, "z", "y", "x")
	numbers(t, "(b a b a c)", nil, "b", "a", "c")
	numbers(t, "(b a c d)", []string{"d", "a"}, "b", "c")
	numbers(t, "'a", nil, "quote", "a")
	numbers(t, "(x 'a `b ,c ,@d)", nil, "x", "quote", "a", "quasiquote", "b", "unquote", "c", "unquote-splicing", "d")
	numbers(t, "(quote a)", []string{"a", "quote"})
	numbers(t, "'a", []string{"a"}, "quote")
	numbers(t, "(#0=b . #1=(a #0#)) #1#", nil, "b", "a")
	numbers(t, "(#;x a #;'y . #;z b #;#0=c)", nil, "a", "b")
	numbers(t, `(1 "a" #\b #t #u8(1))`, nil)
	numbers(t, "((((d))) c ((b)) a)", nil, "d", "c", "b", "a")
}

// 17.1: a symbol's value is its number, whatever numbers there are.
func TestSymbolValues(t *testing.T) {
	w := newWorld(t, 10)
	w.x.Number("b")
	vals := w.all("a b c was-there b")
	for i, want := range []int{2, 1, 3, 0, 1} {
		if vals[i] != (api.Val{K: api.Sym, N: want}) {
			t.Fatalf("the %d. symbol: %v", i, vals[i])
		}
	}
}

// 17.1: a memory as great as may be, that is full behind one text.
func TestRoomForMany(t *testing.T) {
	w := newWorld(t, api.MaxCells-3)
	s := "(" + strings.Repeat("() ", 1300) + ")"
	n, _, _ := read.Count(s)
	fits := (api.MaxCells - 3) / n
	for range fits {
		w.all(s)
	}
	if w.h.Live() != 3+fits*n {
		t.Fatal("objects:", w.h.Live())
	}
	w.refuses(s, len(s), api.ErrFull)
}
