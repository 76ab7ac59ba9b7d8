package sym_test

import (
	"slices"
	"strconv"
	"testing"

	"hibernacle/api"
	"hibernacle/sym"
)

// freshNames asks for fresh names so often, and is what they are.
func freshNames(t *testing.T, s *sym.Table, name string, times int) []string {
	t.Helper()
	var list []string
	for range times {
		n := s.Len()
		got := fresh(s, name)
		if got != (answer{i: n}) {
			t.Fatalf("Fresh(%q): %v, not %d", name, got, n)
		}
		list = append(list, s.Name(n))
	}
	return list
}

// 10.2: Fresh of what may not be a name is refused, and changes nothing; of
// another one it is a new name's number.
func TestFresh(t *testing.T) {
	askAll(t, "Fresh", 3)
}

// 10.2: a fresh name is one with a % and a number; its first bytes become
// fewer where it would be too long.
func TestFreshNames(t *testing.T) {
	for _, n := range []int{1, 2, 27, 28, 29, 30, 31, 32} {
		got := freshNames(t, sym.New(), text(n), 1001)
		for k, most := range map[int]int{1: 30, 2: 30, 9: 30, 10: 29, 11: 29, 99: 29, 100: 28, 101: 28, 999: 28, 1000: 27, 1001: 27} {
			if want := text(min(n, most)) + "%" + strconv.Itoa(k); got[k-1] != want {
				t.Fatalf("Fresh of %d bytes, for the time %d: %q, not %q", n, k, got[k-1], want)
			}
		}
		for _, name := range got {
			if !sym.May(name) {
				t.Fatalf("Fresh of %d bytes: %q may not be", n, name)
			}
		}
	}
}

// 10.2: a fresh name's number may have four digits, and five.
func TestFreshNamesOfManyDigits(t *testing.T) {
	s := sym.New()
	for n := 1; n < 9999; n++ {
		s.Number(text(min(32, 31-len(strconv.Itoa(n)))) + "%" + strconv.Itoa(n))
	}
	want := []string{text(27) + "%9999", text(26) + "%10000", text(26) + "%10001"}
	if got := freshNames(t, s, text(32), 3); !slices.Equal(got, want) {
		t.Fatalf("Fresh: %q", got)
	}
}

// 10.2: names with the same first bytes take each other's numbers.
func TestFreshOfTheSameFirstBytes(t *testing.T) {
	s := sym.New()
	if got := freshNames(t, s, text(32), 1); got[0] != text(30)+"%1" {
		t.Fatalf("Fresh of 32 bytes: %q", got)
	}
	if got := freshNames(t, s, text(31), 1); got[0] != text(30)+"%2" {
		t.Fatalf("Fresh of 31 bytes: %q", got)
	}
	if got := freshNames(t, s, text(30)+"zz", 1); got[0] != text(30)+"%3" {
		t.Fatalf("Fresh of 30 of them, and others: %q", got)
	}
	if got := freshNames(t, s, text(30), 7); got[0] != text(30)+"%4" || got[6] != text(29)+"%10" {
		t.Fatalf("Fresh of 30 bytes: %q", got)
	}
	if got := freshNames(t, s, text(29), 2); got[0] != text(29)+"%1" || got[1] != text(29)+"%2" {
		t.Fatalf("Fresh of 29 bytes: %q", got)
	}
	// The tenth name of 29 bytes would be the one that 30 bytes came to.
	if got := freshNames(t, s, text(29), 8); got[6] != text(29)+"%9" || got[7] != text(29)+"%11" {
		t.Fatalf("Fresh of 29 bytes, again: %q", got)
	}
}

// 10.2: the least number is taken whose name isn't there, also in gaps, and
// whatever other names are there.
func TestFreshInGaps(t *testing.T) {
	s := tableOf(t, "car", "car%2", "car%3", "car%7", "car%01", "car%0", "car%", "car%1x", "ca%1", "carr%1", "Car%1", "car%-1", "car%+1", "car%4%")
	got := freshNames(t, s, "car", 7)
	if want := []string{"car%1", "car%4", "car%5", "car%6", "car%8", "car%9", "car%10"}; !slices.Equal(got, want) {
		t.Fatalf("Fresh in gaps: %q", got)
	}
	s = tableOf(t, text(30)+"%1", text(29)+"%2", text(30)+"%3", text(29)+"%10", text(28)+"%12")
	got = freshNames(t, s, text(31), 11)
	for i, n := range []int{2, 4, 5, 6, 7, 8, 9, 11, 12, 13, 14} {
		if want := madeOf(text(31), n); got[i] != want {
			t.Fatalf("Fresh in gaps: %q, not %q", got[i], want)
		}
	}
}

// 10.2: Fresh of a name that isn't there doesn't have it be there; where it
// is, it stays what it is.
func TestFreshLeavesItsName(t *testing.T) {
	s := sym.New()
	freshNames(t, s, "car", 2)
	check(t, "a table of fresh names alone", s, plain{"car%1", "car%2"})
	if got := find(s, "car"); got != (found{}) {
		t.Fatalf("Find of what was handed in: %v", got)
	}
	if got := number(s, "car"); got != (answer{i: 2}) {
		t.Fatalf("Number of it: %v", got)
	}
	freshNames(t, s, "car", 1)
	check(t, "a table of it, too", s, plain{"car%1", "car%2", "car", "car%3"})
}

// 10.2: a name that has a % in it is one like others.
func TestFreshOfAPercent(t *testing.T) {
	for name, want := range map[string][]string{
		"%":         {"%%1", "%%2"},
		"%1":        {"%1%1", "%1%2"},
		"car%":      {"car%%1", "car%%2"},
		"car%1":     {"car%1%1", "car%1%2"},
		"car%1%1":   {"car%1%1%1", "car%1%1%2"},
		"1":         {"1%1", "1%2"},
		"a%b":       {"a%b%1", "a%b%2"},
		"car%00":    {"car%00%1", "car%00%2"},
		"car%99999": {"car%99999%1", "car%99999%2"},
	} {
		if got := freshNames(t, sym.New(), name, 2); !slices.Equal(got, want) {
			t.Errorf("Fresh(%q): %q", name, got)
		}
	}
	// A fresh name of a fresh one, and a name that is cut behind its %.
	s := sym.New()
	freshNames(t, s, "car", 1)
	freshNames(t, s, "car%1", 1)
	freshNames(t, s, text(29)+"%ab", 1)
	check(t, "a table", s, plain{"car%1", "car%1%1", text(29) + "%%1"})
}

// 10.2: Fresh when there is room for one name more, and when there is none.
func TestFreshAtTheLimit(t *testing.T) {
	s, x := filled(t, 16383)
	if got := fresh(s, ""); got != (answer{e: api.ErrArg}) {
		t.Fatalf("Fresh of none: %v", got)
	}
	if got := fresh(s, "n5"); got != (answer{i: 16383}) {
		t.Fatalf("Fresh of the last one: %v", got)
	}
	x = append(x, "n5%1")
	for _, name := range append(texts(), "n0", "n5", "n5%1", "n16382") {
		want := answer{e: api.ErrArg}
		if may(name) {
			want.e = api.ErrFull
		}
		if got := fresh(s, name); got != want {
			t.Fatalf("Fresh(%q) of a full table: %v, not %v", name, got, want)
		}
	}
	check(t, "a full table", s, x)
}
