package lex_test

import (
	"slices"
	"testing"

	"hibernacle/api"
	"hibernacle/lex"
)

func mark(k lex.Kind) lex.Token       { return lex.Token{Kind: k} }
func whole(n int) lex.Token           { return lex.Token{Kind: lex.Int, N: n} }
func truth(n int) lex.Token           { return lex.Token{Kind: lex.Bool, N: n} }
func char(n int) lex.Token            { return lex.Token{Kind: lex.Char, N: n} }
func quoted(s string) lex.Token       { return lex.Token{Kind: lex.String, S: s} }
func symbol(s string) lex.Token       { return lex.Token{Kind: lex.Symbol, S: s} }
func label(n int) lex.Token           { return lex.Token{Kind: lex.Label, N: n} }
func again(n int) lex.Token           { return lex.Token{Kind: lex.Again, N: n} }
func at(n int, l lex.Token) lex.Token { l.At = n; return l }

// placeless is tokens without their places.
func placeless(l []lex.Token) []lex.Token {
	l = slices.Clone(l)
	for i := range l {
		l[i].At = 0
	}
	return l
}

// scans asks that a text has just some tokens, whatever their places.
func scans(t *testing.T, s string, want ...lex.Token) {
	t.Helper()
	l, place, e := lex.Scan(s)
	if !slices.Equal(placeless(l), want) || place != len(s) || e != api.OK {
		t.Fatalf("Scan(%q): %v, %d, %d; asked for %v", s, l, place, e, want)
	}
}

// stands asks that a text has just some tokens, at their places.
func stands(t *testing.T, s string, want ...lex.Token) {
	t.Helper()
	l, place, e := lex.Scan(s)
	if !slices.Equal(l, want) || place != len(s) || e != api.OK {
		t.Fatalf("Scan(%q): %v, %d, %d; asked for %v", s, l, place, e, want)
	}
}

// fails asks that a text has a fault, and nothing is told beside it.
func fails(t *testing.T, s string, place int, want api.Errno) {
	t.Helper()
	if l, got, e := lex.Scan(s); len(l) > 0 || got != place || e != want {
		t.Fatalf("Scan(%q): %v, %d, %d; asked for %d, %d", s, l, got, e, place, want)
	}
}
