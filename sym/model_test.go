package sym_test

import (
	"math"
	"regexp"
	"slices"
	"strconv"
	"strings"
	"testing"

	"hibernacle/api"
	"hibernacle/sym"
)

// plain is a table by the chapter's words: a list of its names.
type plain []string

// answer is what Number and Fresh answer.
type answer struct {
	i int
	e api.Errno
}

// found is what Find answers.
type found struct {
	i  int
	ok bool
}

var form = regexp.MustCompile(`\A[\x21-\x7e]{1,32}\z`)

func may(name string) bool {
	return form.MatchString(name)
}

func (x plain) find(name string) found {
	if i := slices.Index(x, name); i >= 0 {
		return found{i, true}
	}
	return found{}
}

func (x plain) name(i int) string {
	if i < 0 || i >= len(x) {
		return ""
	}
	return x[i]
}

func (x *plain) number(name string) answer {
	if !may(name) {
		return answer{e: api.ErrArg}
	}
	if f := x.find(name); f.ok {
		return answer{i: f.i}
	}
	if len(*x) == 16384 {
		return answer{e: api.ErrFull}
	}
	*x = append(*x, name)
	return answer{i: len(*x) - 1}
}

func (x *plain) fresh(name string) answer {
	if !may(name) {
		return answer{e: api.ErrArg}
	}
	if len(*x) == 16384 {
		return answer{e: api.ErrFull}
	}
	for n := 1; ; n++ {
		if made := madeOf(name, n); !x.find(made).ok {
			return x.number(made)
		}
	}
}

// madeOf is the name of a name and a number, found by leaving off last bytes
// till it may be one.
func madeOf(name string, n int) string {
	for first := len(name); ; first-- {
		if made := name[:first] + "%" + strconv.Itoa(n); may(made) {
			return made
		}
	}
}

// less holds names against each other by their lengths, and then by the bytes
// as numbers.
func less(a, b string) bool {
	if len(a) != len(b) {
		return len(a) < len(b)
	}
	for i := range []byte(a) {
		if int(a[i]) != int(b[i]) {
			return int(a[i]) < int(b[i])
		}
	}
	return false
}

// number, find and fresh are what a table answers.
func number(t *sym.Table, name string) answer {
	i, e := t.Number(name)
	return answer{i, e}
}

func find(t *sym.Table, name string) found {
	i, ok := t.Find(name)
	return found{i, ok}
}

func fresh(t *sym.Table, name string) answer {
	i, e := t.Fresh(name)
	return answer{i, e}
}

// text is a name of so many bytes.
func text(n int) string {
	return strings.Repeat("abcdefghijklmnopqrstuvwxyz", 2)[:n]
}

// ends are names of 1 to 32 bytes, and texts that are too short and too long
// for one.
func ends() []string {
	return []string{text(0), text(1), text(2), text(31), text(32), text(33), text(34), strings.Repeat("x", 256), strings.Repeat("x", 288), strings.Repeat("x", 4096)}
}

// bytesAt are texts with each of the bytes at the first, a middle and the
// last place, and alone.
func bytesAt() []string {
	var list []string
	for b := range 256 {
		c := string([]byte{byte(b)})
		list = append(list, c, c+"abcd", "ab"+c+"cd", "abcd"+c, c+text(31), text(15)+c+text(16), text(31)+c, text(32)+c)
	}
	return list
}

// texts are names, at all edges, and what isn't one.
func texts() []string {
	return append(append(ends(), bytesAt()...), "a b", " ", "a\n", "\na", "é", "λ", "\u007f", "\xff\xfe", "%", "%1", "a%1", "a%2", "A", "Ab", "+", "...", "#t", "(")
}

// numbers are those of names, at all edges, and some that are none.
func numbers(n int) []int {
	return []int{math.MinInt, math.MinInt + 1, -1 << 32, -16384, -2, -1, 0, 1, 2, n/2 - 1, n / 2, n - 2, n - 1, n, n + 1, n + 2, 2 * n, 16383, 16384, 16385,
		1 << 16, 1 << 32, 1<<32 + 1, math.MaxInt - 1, math.MaxInt}
}

// filled is a table with so many names, n0, n1 and so on, and a plain one with
// the same.
func filled(t *testing.T, n int) (*sym.Table, plain) {
	t.Helper()
	s, x := sym.New(), plain{}
	for i := range n {
		name := "n" + strconv.Itoa(i)
		if got := number(s, name); got != (answer{i: i}) {
			t.Fatalf("Number(%q): %v, not %d", name, got, i)
		}
		x = append(x, name)
	}
	return s, x
}

// tableOf is a table with names.
func tableOf(t *testing.T, names ...string) *sym.Table {
	t.Helper()
	s := sym.New()
	for i, name := range names {
		if got := number(s, name); got != (answer{i: i}) {
			t.Fatalf("Number(%q): %v, not %d", name, got, i)
		}
	}
	return s
}

// check asks that a table tells what a plain one has.
func check(t *testing.T, what string, s *sym.Table, x plain) {
	t.Helper()
	if got := s.Len(); got != len(x) {
		t.Fatalf("%s: Len: %d, not %d", what, got, len(x))
	}
	for i, name := range x {
		if got := s.Name(i); got != name {
			t.Fatalf("%s: Name(%d): %q, not %q", what, i, got, name)
		}
		if got := find(s, name); got != (found{i, true}) {
			t.Fatalf("%s: Find(%q): %v, not %d", what, name, got, i)
		}
	}
	for _, i := range numbers(len(x)) {
		if got := s.Name(i); got != x.name(i) {
			t.Fatalf("%s: Name(%d): %q, not %q", what, i, got, x.name(i))
		}
	}
}

// ask asks a table and a plain one for a name's number, or for that of a fresh
// one, and asks that both answer the same.
func ask(t *testing.T, what string, s *sym.Table, x *plain, name string) {
	t.Helper()
	var got, want answer
	switch what {
	case "Number":
		got, want = number(s, name), x.number(name)
	case "Fresh":
		got, want = fresh(s, name), x.fresh(name)
	default:
		t.Fatalf("no such call: %s", what)
	}
	if got != want {
		t.Fatalf("%s(%q): %v, not %v", what, name, got, want)
	}
	if s.Len() != len(*x) {
		t.Fatalf("behind %s(%q): %d names, not %d", what, name, s.Len(), len(*x))
	}
}

// askAll asks so for all texts, again and again: of each both answer the same.
func askAll(t *testing.T, what string, times int) {
	t.Helper()
	s, x := sym.New(), plain{}
	for range times {
		for _, name := range texts() {
			ask(t, what, s, &x, name)
		}
	}
	check(t, "a table of all names", s, x)
}
