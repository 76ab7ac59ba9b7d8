package lex_test

import (
	"math/rand"
	"slices"
	"testing"

	"hibernacle/api"
	"hibernacle/lex"
)

// goesRound asks that tokens that were scanned, joined and scanned again are the
// same, but for their places, and tells whether there were any.
func goesRound(t *testing.T, s string) bool {
	t.Helper()
	l, _, e := lex.Scan(s)
	if e != api.OK {
		return false
	}
	joined := lex.Join(l)
	if len(joined) > api.MaxText {
		return false
	}
	again, _, e := lex.Scan(joined)
	if e != api.OK || !slices.Equal(placeless(l), placeless(again)) {
		t.Fatalf("Scan(%q) tells %v, and of what is joined, %q, %v, %d", s, l, joined, again, e)
	}
	return len(l) > 0
}

// 16.3: tokens of each kind, joined and scanned again.
func TestRoundByHand(t *testing.T) {
	for _, s := range []string{
		`(car '(1 . #\a))`, "#0=(a . #0#)", "#(1 2)#u8(3)`(,a ,@b)#;c", `"a\"\\\n\t\r\a\b\x0;\x7f;"`, "#true #false #t #f", "#xff #b-101 #o17 +5 -0 007",
		`#\x #\x41 #\space #\nul #\delete #\x1 #\( #\; #\" #\#`, "... + - .a . -a", "#001=#1#", "a;b\n#|c|#d",
	} {
		if !goesRound(t, s) {
			t.Fatalf("%q has a fault", s)
		}
	}
	for c := range 128 {
		if s := string(rune(c)); !goesRound(t, `#\`+s) {
			t.Fatalf("the character %d has a fault", c)
		}
	}
}

// 16.3: tokens of any texts, joined and scanned again.
func TestRound(t *testing.T) {
	from, count := rand.New(rand.NewSource(2)), 0
	for range 20000 {
		if goesRound(t, some(from, from.Intn(20))) {
			count++
		}
	}
	if count < 2000 {
		t.Fatal("too few texts without a fault:", count)
	}
}

// What is told is new memory: it can be changed without anything else changing.
func TestNewMemory(t *testing.T) {
	s := `(a "b" 1)`
	first, _, _ := lex.Scan(s)
	second, _, _ := lex.Scan(s)
	was := slices.Clone(second)
	for i := range first {
		first[i] = lex.Token{Kind: lex.Skip, N: 9, S: "x", At: 9}
	}
	_ = append(first[:1], first[2:]...)
	if !slices.Equal(second, was) {
		t.Fatal("another answer has changed:", second)
	}
	stands(t, s, was...)
	joined := lex.Join(second)
	second[1].S = "c"
	if joined != `( a "b" 1 )` {
		t.Fatal("what was joined has changed:", joined)
	}
}

// What is handed in isn't changed.
func TestHandedIn(t *testing.T) {
	l := []lex.Token{at(3, symbol("a")), at(-1, quoted("b\n")), whole(7)}
	was := slices.Clone(l)
	if lex.Join(l); !slices.Equal(l, was) {
		t.Fatal("Join has changed its list:", l)
	}
}
