package read_test

import (
	"fmt"
	"math/rand"
	"slices"
	"testing"

	"hibernacle/api"
	"hibernacle/read"
)

// 17.3: of texts that are read, one behind the other with a blank between, the
// data are those of both.
func TestBehindEachOther(t *testing.T) {
	list := []string{
		"", "a", "1 2", "(a b . c)", "#0=(a . #0#)", "#;#1=a #1=b #1#", "'x `y", `"a" #(1 "b")`, "#u8(1 2)", "; a", "#2=(#3=(#2# #3#) . #2#)", "#;(a)", "#| a |# #t", "()", "#4=\"c\" #4# #(#4#)",
	}
	for _, a := range list {
		for _, b := range list {
			if a == b || a == "; a" {
				continue
			}
			w := newWorld(t, 60)
			x, y := w.all(a), w.all(b)
			both := w.all(a + " " + b)
			want, _ := w.sketch(slices.Concat(x, y))
			if got, _ := w.sketch(both); got != want {
				t.Fatalf("%q and %q: %s, not %s", a, b, got, want)
			}
			m, _, _ := read.Count(a)
			n, _, _ := read.Count(b)
			if sum, _, e := read.Count(a + " " + b); sum != m+n || e != api.OK {
				t.Fatalf("Count of %q and %q: %d, not %d", a, b, sum, m+n)
			}
		}
	}
}

// 17.3: of any texts, one behind the other.
func TestAnyBehindEachOther(t *testing.T) {
	from, done := rand.New(rand.NewSource(5)), 0
	for range 8000 {
		a, b := some(from, from.Intn(10), "#1="), some(from, from.Intn(10), "#2=")
		w := newWorld(t, 200)
		x, _, e := read.All(w.h, w.x, a)
		y, _, f := read.All(w.h, w.x, b)
		if e != api.OK || f != api.OK {
			continue
		}
		done++
		want, _ := w.sketch(slices.Concat(x, y))
		if got, _ := w.sketch(w.all(a + " " + b)); got != want {
			t.Fatalf("%q and %q: %s, not %s", a, b, got, want)
		}
	}
	if done < 500 {
		t.Fatal("too few texts:", done)
	}
}

// What is told is new memory: it, and its objects, can be changed without
// anything else changing.
func TestNewMemory(t *testing.T) {
	s := `(a "b" #(c) #u8(1)) x 'y`
	w := newWorld(t, 60)
	first, second := w.all(s), w.all(s)
	was, _ := w.sketch(second)
	items := w.items(first[0], 4)
	for i := range first {
		first[i] = api.Val{K: api.Eof}
	}
	_ = append(first[:1], api.Val{K: api.Eof})
	w.h.SetByte(items[1], 0, 'z')
	w.h.Set(items[2], 0, api.Val{})
	w.h.SetByte(items[3], 0, 7)
	if got, _ := w.sketch(second); got != was {
		t.Fatalf("another answer has changed: %s, not %s", got, was)
	}
	third, _ := w.sketch(w.all(s))
	if third != was {
		t.Fatalf("read again: %s, not %s", third, was)
	}
}

// What is told hangs on nothing that was read ahead.
func TestNothingIsKept(t *testing.T) {
	for _, ahead := range []string{"#0=a", "#;#0=a", "(((", "#0=(", "'", "#;"} {
		w := newWorld(t, 60)
		read.All(w.h, w.x, ahead)
		w.refuses("#0#", 0, api.ErrNone)
		if got, _ := w.sketch(w.all("#0=(b #0#)")); got != "0(b 1(@0 ()))" {
			t.Fatalf("behind %q: %s", ahead, got)
		}
		fine(t, deep(64, "(", "", ")"), 1, 63)
	}
}

// Two worlds that are alike are told the same, place by place.
func TestSameToTheSame(t *testing.T) {
	for _, s := range []string{"(a b)", "#0=(a . #(#0# \"b\"))", "'(a `b) #u8(1)"} {
		var told []string
		for range 5 {
			w := newWorld(t, 30)
			vals := w.all(s)
			told = append(told, fmt.Sprint(vals, w.state()))
		}
		if len(slices.Compact(told)) != 1 {
			t.Fatalf("%q: %q", s, told)
		}
	}
}
