package sym_test

import (
	"testing"

	"hibernacle/api"
	"hibernacle/sym"
)

// The chapter's example.
func TestExample(t *testing.T) {
	s := sym.New()
	if a, b := number(s, "car"), number(s, "cdr"); a != (answer{i: 0}) || b != (answer{i: 1}) {
		t.Fatalf("Number of car and cdr: %v, %v", a, b)
	}
	if got := fresh(s, "car"); got != (answer{i: 2}) || s.Name(2) != "car%1" {
		t.Fatalf("Fresh of car: %v, %q", got, s.Name(2))
	}
}

// 10.1: New has no names; each is a table by itself.
func TestNew(t *testing.T) {
	s, other := sym.New(), sym.New()
	check(t, "a new table", s, nil)
	number(s, "car")
	fresh(s, "car")
	check(t, "a new table beside another one", other, nil)
	check(t, "a table of two names", s, plain{"car", "car%1"})
}

// 10.1: a name is 1 to 32 bytes.
func TestMayByLength(t *testing.T) {
	for n := range 50 {
		if got := sym.May(text(n)); got != (n >= 1 && n <= 32) {
			t.Errorf("May of %d bytes: %v", n, got)
		}
	}
}

// 10.1: each byte of a name is from 33 to 126, wherever it stands.
func TestMayByBytes(t *testing.T) {
	for b := range 256 {
		name := []byte{byte(b)}
		if got := sym.May(string(name)); got != (b >= 33 && b <= 126) {
			t.Errorf("May of the byte %d: %v", b, got)
		}
		for at := range 32 {
			name := []byte(text(32))
			name[at] = byte(b)
			if got := sym.May(string(name)); got != (b >= 33 && b <= 126) {
				t.Errorf("May of the byte %d at %d: %v", b, at, got)
			}
		}
	}
}

// 10.1: May of all that may be handed in.
func TestMay(t *testing.T) {
	for _, name := range texts() {
		if got := sym.May(name); got != may(name) {
			t.Errorf("May(%q): %v", name, got)
		}
	}
}

// 10.1: Number of what may not be a name is refused; of another one it is the
// number behind the last, and the same number when it is asked again.
func TestNumber(t *testing.T) {
	askAll(t, "Number", 2)
}

// 10.1: names are told apart by all their bytes.
func TestNamesThatAreNearlyTheSame(t *testing.T) {
	names := []string{"a", "A", "aa", "ab", "ba", text(31), text(32), text(31) + "!", "!" + text(31), "0", "00", "-0", "+0", "a%1", "a%01"}
	check(t, "a table of names that are nearly the same", tableOf(t, names...), names)
}

// 10.1: Number when there is room for one name more, and when there is none:
// names that are there have their numbers still.
func TestNumberAtTheLimit(t *testing.T) {
	s, x := filled(t, 16383)
	if got := number(s, "n16382"); got != (answer{i: 16382}) {
		t.Fatalf("Number of one that is there: %v", got)
	}
	if got := number(s, ""); got != (answer{e: api.ErrArg}) {
		t.Fatalf("Number of none: %v", got)
	}
	check(t, "a table of 16,383 names", s, x)
	if got := number(s, "last"); got != (answer{i: 16383}) {
		t.Fatalf("Number of the last one: %v", got)
	}
	x = append(x, "last")
	for _, name := range texts() {
		want := answer{e: api.ErrArg}
		if may(name) {
			want.e = api.ErrFull
		}
		if got := number(s, name); got != want {
			t.Fatalf("Number(%q) of a full table: %v, not %v", name, got, want)
		}
		if got := find(s, name); got != (found{}) {
			t.Fatalf("Find(%q) of what was refused: %v", name, got)
		}
	}
	for i, name := range x {
		if got := number(s, name); got != (answer{i: i}) {
			t.Fatalf("Number(%q) of a full table: %v, not %d", name, got, i)
		}
	}
	check(t, "a full table", s, x)
}

// 10.1: Find of names that are there, and of all that isn't: it has no name
// be there.
func TestFind(t *testing.T) {
	for _, x := range []plain{nil, {"a"}, {"b", "a"}, {"car", "cdr", text(32), text(31), "%", "a%1"}} {
		s := tableOf(t, x...)
		for _, name := range append(texts(), x...) {
			if got, want := find(s, name), x.find(name); got != want {
				t.Fatalf("Find(%q): %v, not %v", name, got, want)
			}
		}
		check(t, "a table behind Find", s, x)
	}
}

// 10.1: Name of numbers that names have, and of those that none has; Len.
func TestNameAndLen(t *testing.T) {
	for n := range 40 {
		s, x := filled(t, n)
		check(t, "a table", s, x)
		for i := -3; i < n+3; i++ {
			if got := s.Name(i); got != x.name(i) {
				t.Fatalf("Name(%d) of %d: %q", i, n, got)
			}
		}
	}
}

// 10.2, P1: every call on a nil table.
func TestNil(t *testing.T) {
	var s *sym.Table
	if s.Len() != 0 || s.Copy() != nil {
		t.Errorf("Len, Copy: %d, %v", s.Len(), s.Copy())
	}
	for _, name := range texts() {
		if got := number(s, name); got != (answer{e: api.ErrArg}) {
			t.Errorf("Number(%q): %v", name, got)
		}
		if got := fresh(s, name); got != (answer{e: api.ErrArg}) {
			t.Errorf("Fresh(%q): %v", name, got)
		}
		if got := find(s, name); got != (found{}) {
			t.Errorf("Find(%q): %v", name, got)
		}
	}
	for _, i := range numbers(0) {
		if got := s.Name(i); got != "" {
			t.Errorf("Name(%d): %q", i, got)
		}
	}
}
