package sym_test

import (
	"slices"
	"strings"
	"testing"

	"hibernacle/sym"
)

// 10.2: fewer bytes come first; of as many the first byte that differs
// decides.
func TestLess(t *testing.T) {
	rising := []string{"", "\x00", "!", "A", "Z", "a", "z", "~", "\x7f", "\x80", "\xff", "\x00\x00", "aa", "ab", "az", "ba", "bb", "z\xff", "\x80a", "\xc3\xa9", "\xff\x00",
		"AAA", "aaa", "aab", "abb", "baa", "λ ", strings.Repeat("a", 31), text(32), strings.Repeat("b", 32), strings.Repeat("a", 33), strings.Repeat("a", 4096)}
	for i, a := range rising {
		for j, b := range rising {
			if got := sym.Less(a, b); got != (i < j) {
				t.Errorf("Less(%q, %q): %v", a, b, got)
			}
		}
	}
}

// 10.2: Less of all that may be handed in, and of texts that differ at one
// place.
func TestLessOfTexts(t *testing.T) {
	list := texts()
	for _, a := range list {
		for _, b := range list {
			if got := sym.Less(a, b); got != less(a, b) {
				t.Fatalf("Less(%q, %q): %v", a, b, got)
			}
		}
	}
}

// 10.2: names that are sorted by Less are so in one way.
func TestLessSorts(t *testing.T) {
	names := []string{"cdr", "b", "car", "a", "list->vector", "+", "cons", "call/cc", "%", "b%1"}
	slices.SortFunc(names, func(a, b string) int {
		switch {
		case sym.Less(a, b):
			return -1
		case sym.Less(b, a):
			return 1
		}
		return 0
	})
	want := []string{"%", "+", "a", "b", "b%1", "car", "cdr", "cons", "call/cc", "list->vector"}
	if !slices.Equal(names, want) {
		t.Fatalf("sorted: %q", names)
	}
}
