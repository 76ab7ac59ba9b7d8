package store_test

import (
	"testing"

	"hibernacle/api"
	"hibernacle/pager"
)

// fill adds long things till a store's space has so many pages left, at
// least 40; then some of a page.
func (b *both) fill(left int) {
	b.t.Helper()
	for 512-b.s.Space().Len() >= left+40 {
		b.add(thing(16384, b.s.Len()))
	}
	for 512-b.s.Space().Len() > left+1 {
		b.add(thing(512, b.s.Len()))
	}
	for 512-b.s.Space().Len() > left {
		b.add(thing(400, b.s.Len()))
	}
	if n := 512 - b.s.Space().Len(); n != left {
		b.t.Fatalf("%d pages are left, not %d", n, left)
	}
}

// room is how long a record the pages have room for, as they are.
func (b *both) room() int {
	most := -1
	for _, row := range b.x.slots {
		if len(row) < 64 {
			most = max(most, min(480, 512-size(row)-2))
		}
	}
	return most
}

// 12.2: Add and Put where few pages are left, or none: what needs more than
// there are is refused, and changes nothing.
func TestFewPagesLeft(t *testing.T) {
	for left := range 5 {
		for i, length := range lengths() {
			b := newBoth(t, 2048)
			b.fill(left)
			pages := (length + 511) / 512
			if n := b.add(thing(length, i)); length > 479 && (pages > left && n != 0 || pages < left && n == 0) {
				t.Errorf("%d pages left: Add of %d bytes: %d", left, length, n)
			}
			b.check("added")
			for _, n := range []int{1, 16, b.s.Len()} {
				left := 512 - b.s.Space().Len()
				if e := b.put(n, thing(length, i+1)); length > 479 && (pages > left && e != api.ErrFull || pages < left && e != api.OK) {
					t.Errorf("%d pages left: Put(%d) of %d bytes: %d", left, n, length, e)
				}
				b.check("put")
			}
		}
	}
}

// 12.2: what just fits where no page is left, and what is a byte longer.
func TestNoPageLeft(t *testing.T) {
	b := newBoth(t, 2048)
	b.fill(0)
	for b.room() > 0 {
		room := b.room()
		if e := b.put(1, thing(room, 3)); e != api.ErrFull {
			t.Fatalf("Put of %d bytes, with room for a record of %d: %d", room, room, e)
		}
		b.add(thing(room, 3))
		b.check("no page left")
		b.add(thing(room-1, 3))
		b.check("no page left")
	}
	// No record has room any more, not the least one.
	n, e := b.s.Add("")
	if n != 0 || e != api.ErrFull {
		t.Errorf("Add of nothing: %d, %d", n, e)
	}
	for n := range b.s.All() {
		if e := b.put(n, ""); e != api.ErrFull {
			t.Errorf("Put(%d) of nothing: %d", n, e)
		}
	}
	for _, n := range strange() {
		if e := b.put(n, ""); e != api.ErrNone {
			t.Errorf("Put(%d): %d", n, e)
		}
	}
	for _, e := range []api.Errno{b.put(1, thing(16385, 0)), b.put(1, thing(16384, 0))} {
		if e != api.ErrLong && e != api.ErrFull {
			t.Errorf("Put: %d", e)
		}
	}
	b.check("no room left")
	// What is dropped leaves room again.
	b.drop(1)
	b.add(thing(16384, 5))
	b.check("room again")
}

// 12.2: where no page is left for a part of the table.
func TestNoPageForAPart(t *testing.T) {
	b := newBoth(t, 2048)
	for n := range 127 {
		b.add(thing(1, n))
	}
	for n := range 14 {
		b.put(n+1, thing(16384, n))
	}
	b.check("127 things")
	for 512-b.s.Space().Len() > 0 {
		_, e := b.s.Space().Alloc()
		do(t, "Alloc", e)
	}
	full := func(length int, want api.Errno) {
		t.Helper()
		was := stateOf(t, b.s.Space())
		if n, e := b.s.Add(thing(length, 1)); (n == 0) != (want != api.OK) || e != want {
			t.Fatalf("Add of %d bytes: %d, %d, asked for %d", length, n, e, want)
		}
		if want != api.OK && !stateOf(t, b.s.Space()).equal(was) {
			t.Fatalf("Add of %d bytes, that was refused, changed something", length)
		}
	}
	full(480, api.ErrFull)
	full(1, api.OK)
	// The part for 129 lacks.
	full(1, api.ErrFull)
	full(0, api.ErrFull)
	do(t, "Drop", b.s.Space().Drop(511))
	full(480, api.ErrFull)
	full(1, api.OK)
	full(480, api.ErrFull)
	if head, _ := b.s.Space().Read(0); head != padded("HOBJ\x02\x00\x01\x01\xff") {
		t.Errorf("the head: %q", head)
	}
	if b.s.Len() != 129 {
		t.Errorf("there are %d things", b.s.Len())
	}
}

// 12.2: Add where no number is left.
func TestNoNumberLeft(t *testing.T) {
	b := newBoth(t, 2048)
	for n := 1; n <= 8192; n++ {
		if got, e := b.s.Add(thing(n%2, n)); got != n || e != api.OK {
			t.Fatalf("Add: %d, %d, not %d", got, e, n)
		}
	}
	full := func(name string) {
		t.Helper()
		for _, length := range []int{0, 479, 480, 16384} {
			if n, e := b.s.Add(thing(length, 1)); n != 0 || e != api.ErrFull {
				t.Errorf("%s: Add of %d bytes: %d, %d", name, length, n, e)
			}
		}
		if n, e := b.s.Add(thing(16385, 1)); n != 0 || e != api.ErrLong {
			t.Errorf("%s: Add of 16,385 bytes: %d, %d", name, n, e)
		}
		n := 0
		for got := range b.s.All() {
			n++
			if data, e := b.s.Get(n); got != n || data != thing(n%2, n) || e != api.OK {
				t.Fatalf("%s: All: %d; Get(%d): %q, %d", name, got, n, data, e)
			}
		}
		if n != 8192 || b.s.Len() != 8192 {
			t.Errorf("%s: %d things, Len %d", name, n, b.s.Len())
		}
		if got := b.s.Space().Len(); got != 1+64+128 {
			t.Errorf("%s: %d pages", name, got)
		}
	}
	full("8192 things")
	do(t, "Commit", b.s.Commit(1))
	do(t, "Abort", b.s.Abort())
	full("8192 things, opened anew")
	for _, n := range []int{1, 4096, 8192} {
		do(t, "Drop", b.s.Drop(n))
		if got, e := b.s.Add(thing(n%2, n)); got != n || e != api.OK {
			t.Errorf("Add: %d, %d, not %d", got, e, n)
		}
		full("8192 things again")
	}
}

// 12.3: a commit that has no room is refused; the store goes on, and what is
// dropped may be committed.
func TestNoRoomOnTheDisk(t *testing.T) {
	b := newBoth(t, 64)
	b.add(thing(16384, 1))
	if e := b.commit(1); e != api.ErrFull {
		t.Fatalf("Commit of %d pages: %d", b.s.Space().Len(), e)
	}
	b.check("a commit that was refused")
	b.drop(1)
	b.add(thing(3000, 1))
	if e := b.commit(1); e != api.OK {
		t.Fatalf("Commit: %d", e)
	}
	b.again()
	b.check("opened anew")
	var sp *pager.Space = b.s.Space()
	if sp.Pages() != 16 {
		t.Errorf("%d pages", sp.Pages())
	}
}
