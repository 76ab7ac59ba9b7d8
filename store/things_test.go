package store_test

import (
	"slices"
	"testing"

	"hibernacle/api"
)

// 12.2: things of all lengths are added, asked, put anew by each other
// length, and dropped.
func TestLengths(t *testing.T) {
	for _, length := range lengths() {
		b := newBoth(t, 512)
		for i, other := range lengths() {
			n := b.add(thing(length, i))
			b.check("added")
			b.put(n, thing(other, i+1))
			b.check("put")
			b.put(n, thing(length, i+2))
			b.check("put back")
			if i%3 == 0 {
				b.drop(n)
				b.check("dropped")
			}
		}
		for _, n := range b.x.numbers() {
			b.drop(n)
		}
		b.check("all dropped")
		if b.s.Len() != 0 || b.s.Space().Len() != 2 {
			t.Errorf("all dropped: %d things, %d pages", b.s.Len(), b.s.Space().Len())
		}
	}
}

// 12.2: a thing that is too long; of a number without a thing it isn't told.
func TestTooLong(t *testing.T) {
	b := newBoth(t, 512)
	for _, length := range []int{16385, 16386, 1 << 16, 1 << 20} {
		if n, e := b.s.Add(thing(length, 0)); n != 0 || e != api.ErrLong {
			t.Errorf("Add of %d bytes: %d, %d", length, n, e)
		}
		b.add(thing(length, 0))
		b.check("too long")
		b.add("x")
		if e := b.put(1, thing(length, 0)); e != api.ErrLong {
			t.Errorf("Put of %d bytes: %d", length, e)
		}
		for _, n := range strange() {
			if e := b.put(n, thing(length, 0)); e != api.ErrNone {
				t.Errorf("Put(%d) of %d bytes: %d", n, length, e)
			}
		}
		b.check("too long")
	}
}

// 12.2: numbers that never have a thing, and such as have none now.
func TestNumbersWithoutAThing(t *testing.T) {
	b := newBoth(t, 512)
	ask := func(name string) {
		t.Helper()
		for _, n := range edges() {
			if b.x.has(n) {
				continue
			}
			if data, e := b.s.Get(n); data != "" || e != api.ErrNone {
				t.Errorf("%s: Get(%d): %q, %d", name, n, data, e)
			}
			if e := b.put(n, "x"); e != api.ErrNone {
				t.Errorf("%s: Put(%d): %d", name, n, e)
			}
			b.drop(n)
		}
		b.check(name)
	}
	ask("no things")
	for n := range 130 {
		b.add(thing(3, n))
	}
	ask("130 things")
	b.drop(1, 65, 128, 130)
	ask("126 things")
	b.drop(65)
	b.add("y")
	b.drop(1)
	ask("125 things")
	b.clear()
	ask("cleared")
}

// 12.2: Add takes the least number without a thing, also behind drops.
func TestLeastNumber(t *testing.T) {
	b := newBoth(t, 512)
	want := func(n int) {
		t.Helper()
		if got := b.add(thing(n%4, n)); got != n {
			t.Errorf("Add: %d, asked for %d", got, n)
		}
	}
	for n := 1; n <= 300; n++ {
		want(n)
	}
	b.drop(300, 7, 128, 129, 256, 1)
	b.check("six dropped")
	for _, n := range []int{1, 7, 128, 129, 256, 300, 301} {
		want(n)
	}
	b.drop(5)
	want(5)
	want(302)
	b.check("added again")
}

// 12.2: a part of the table that isn't needed any more stays, and is used
// again.
func TestPartsStay(t *testing.T) {
	b := newBoth(t, 512)
	for n := range 260 {
		b.add(thing(1, n))
	}
	for n := range 260 {
		b.drop(n + 1)
		if n%10 == 0 {
			b.check("dropped")
		}
	}
	b.check("dropped")
	if n := b.s.Space().Len(); n != 4 {
		t.Errorf("without things there are %d pages", n)
	}
	for n := range 260 {
		b.add(thing(2, n))
	}
	b.check("added again")
	for n := 260; n > 0; n-- {
		b.drop(n)
	}
	b.check("dropped from the last one on")
}

// 12.2: All tells numbers that rise, may be left, and tells what there was
// when it was asked for.
func TestAll(t *testing.T) {
	b := newBoth(t, 512)
	for n := range 200 {
		b.add(thing(2, n))
	}
	b.drop(1, 50, 128, 130, 200)
	want := b.x.numbers()
	all := b.s.All()
	var got []int
	for n := range all {
		got = append(got, n)
		if len(got) == 130 {
			break
		}
	}
	if !slices.Equal(got, want[:130]) {
		t.Errorf("All, left: %v", got)
	}
	got = nil
	for n := range all {
		got = append(got, n)
		switch {
		case n%3 == 0:
			b.drop(n)
		case n%3 == 1 && b.x.has(n+1):
			b.drop(n + 1)
		default:
			b.add("z")
		}
	}
	if !slices.Equal(got, want) {
		t.Errorf("All of a store that is changed: %v, not %v", got, want)
	}
	b.check("changed amid the loop")
	b.clear()
	if got := slices.Collect(all); !slices.Equal(got, want) {
		t.Errorf("what All told, behind Clear: %v", got)
	}
	if got := slices.Collect(b.s.All()); len(got) != 0 {
		t.Errorf("All behind Clear: %v", got)
	}
}

// 12.2: Clear drops all pages but the head, and what is added behind it is as
// in a new store.
func TestClear(t *testing.T) {
	for _, count := range []int{0, 1, 2, 130, 300} {
		b := newBoth(t, 2048)
		for n := range count {
			b.add(thing(lengths()[n%8], n))
		}
		b.commit(4)
		b.clear()
		b.check("cleared")
		if n := b.s.Space().Len(); n != 1 || b.s.Len() != 0 || b.s.Word() != 4 {
			t.Errorf("cleared: %d pages, %d things, the word %d", n, b.s.Len(), b.s.Word())
		}
		b.clear()
		b.check("cleared twice")
		for n := range count + 1 {
			if got := b.add(thing(n%600, n)); got != n+1 {
				t.Errorf("Add behind Clear: %d, not %d", got, n+1)
			}
		}
		b.check("added behind Clear")
		b.abort()
		b.check("aborted")
		b.clear()
		b.commit(5)
		b.again()
		b.check("cleared, opened anew")
	}
}

// 12.2: what is handed in isn't kept, and what is told is the bytes: any
// bytes at all.
func TestAnyBytes(t *testing.T) {
	b := newBoth(t, 512)
	all := make([]byte, 256)
	for i := range all {
		all[i] = byte(i)
	}
	text := string(all)
	for _, data := range []string{"\x00", "\x01", "\x00\x00", "\xff", text, text + text, text + text + "\x00", string(make([]byte, 479)), string(make([]byte, 480)),
		string(make([]byte, 512)), string(make([]byte, 16384))} {
		b.add(data)
		b.check("any bytes")
	}
	for n := range b.s.All() {
		b.put(n, text[n:])
	}
	b.check("any bytes, put")
}
