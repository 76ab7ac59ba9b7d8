package store_test

import (
	"slices"
	"testing"

	"hibernacle/api"
	"hibernacle/pager"
	"hibernacle/store"
)

// The chapter's example.
func TestExample(t *testing.T) {
	b := newBoth(t, 64)
	n, e := b.s.Add("x")
	if n != 1 || e != api.OK {
		t.Fatalf("Add: %d, %d", n, e)
	}
	got := pagesOf(t, b.s.Space())
	if len(got) != 3 || got[2] != padded("\x01\x00\x03\x00x") {
		t.Errorf("%d pages, the page 2 has %q", len(got), got[2])
	}
}

// 12.1: Format of a space without pages has a head in it, and commits
// nothing.
func TestFormat(t *testing.T) {
	d := newDisk(t, 64)
	sp := newSpace(t, d)
	s := format(t, sp)
	check(t, "formatted", s, newPlain())
	if got := pagesOf(t, sp); len(got) != 1 || got[0] != padded("HOBJ") {
		t.Errorf("formatted: %d pages, the head has %q", len(got), got[0])
	}
	if s.Space() != sp || s.Word() != 0 || sp.Epoch() != 1 || !sp.Changed() {
		t.Errorf("formatted: the epoch %d, the word %d, changed: %v", sp.Epoch(), s.Word(), sp.Changed())
	}
	if n := openSpace(t, d).Len(); n != 0 {
		t.Errorf("Format committed %d pages", n)
	}
}

// 12.1: Format of a space that has pages, that has no page left, of one
// that's gone, and of none.
func TestFormatRefused(t *testing.T) {
	refused := func(name string, sp *pager.Space, want api.Errno) {
		t.Helper()
		was := stateOf(t, sp)
		if s, e := store.Format(sp); s != nil || e != want {
			t.Errorf("%s: Format: %v, %d, asked for %d", name, s, e, want)
		}
		if !stateOf(t, sp).equal(was) {
			t.Errorf("%s: a Format that was refused changed something", name)
		}
	}
	refused("nil", nil, api.ErrArg)
	d := newDisk(t, 64)
	sp := newSpace(t, d)
	for n := range 512 {
		if l, e := sp.Alloc(); l != n || e != api.OK {
			t.Fatalf("Alloc: %d, %d", l, e)
		}
		if n == 0 || n == 1 || n == 511 {
			refused("pages", sp, api.ErrState)
		}
	}
	for l := range 511 {
		do(t, "Drop", sp.Drop(l))
	}
	refused("the last page", sp, api.ErrState)
	do(t, "Drop", sp.Drop(511))
	s := format(t, sp)
	refused("a store's", sp, api.ErrState)
	do(t, "Commit", s.Commit(0))
	refused("a store's, committed", sp, api.ErrState)
	do(t, "Drop", sp.Drop(0))
	check(t, "formatted anew", format(t, sp), newPlain())
	d.Fuse(0)
	if e := sp.Commit(0); e != api.ErrDown {
		t.Fatalf("Commit: %d", e)
	}
	refused("gone", sp, api.ErrDown)
}

// 12.1: Open of a space without pages, of one that's gone, of one whose disk
// is down, and of none.
func TestOpenRefused(t *testing.T) {
	refused := func(name string, sp *pager.Space, want api.Errno) {
		t.Helper()
		if s, e := store.Open(sp); s != nil || e != want {
			t.Errorf("%s: Open: %v, %d, asked for %d", name, s, e, want)
		}
	}
	refused("nil", nil, api.ErrArg)
	d := newDisk(t, 64)
	sp := newSpace(t, d)
	refused("no pages", sp, api.ErrNone)
	s := format(t, sp)
	open(t, sp)
	if _, e := s.Add("x"); e != api.OK {
		t.Fatalf("Add: %d", e)
	}
	do(t, "Commit", s.Commit(3))
	do(t, "Drop", sp.Drop(0))
	refused("no head", sp, api.ErrNone)
	sp.Abort()
	// The head is in memory, but not the other pages.
	head, _ := sp.Read(0)
	do(t, "Write", sp.Write(0, head))
	d.Fail(nil, -1, 0)
	refused("down, all but the head", sp, api.ErrDown)
	sp.Abort()
	refused("down", sp, api.ErrDown)
	d.Start()
	open(t, sp)
	d.Fuse(1)
	if e := sp.Commit(3); e != api.ErrDown {
		t.Fatalf("Commit: %d", e)
	}
	refused("gone", sp, api.ErrDown)
	d.Start()
	refused("gone, started", sp, api.ErrDown)
	refused("none of pages", pagerless(t), api.ErrNone)
}

// pagerless is a space that had pages once.
func pagerless(t *testing.T) *pager.Space {
	t.Helper()
	b := newBoth(t, 64)
	b.add("x")
	sp := b.s.Space()
	for l := range sp.All() {
		do(t, "Drop", sp.Drop(l))
	}
	return sp
}

// 12.1: Open of a store's space finds its things, committed or not.
func TestOpen(t *testing.T) {
	b := newBoth(t, 1024)
	for i, length := range lengths() {
		check(t, "opened", open(t, b.s.Space()), b.x)
		b.add(thing(length, i))
	}
	for n := range 200 {
		b.add(thing(n%5, n))
	}
	b.drop(3, 5, 13, 140, 141)
	check(t, "opened", open(t, b.s.Space()), b.x)
	b.commit(7)
	b.again()
	b.check("opened anew")
	if b.s.Word() != 7 {
		t.Errorf("the word is %d", b.s.Word())
	}
}

// 12.1: pages that no page of the store tells, and records that the table
// doesn't, are nobody's.
func TestOpenBesideOthers(t *testing.T) {
	b := newBoth(t, 256)
	b.add(thing(5, 1))
	other, e := b.s.Space().Alloc()
	do(t, "Alloc", e)
	do(t, "Write", b.s.Space().Write(other, padded("not a page of records\xff")))
	checkThings(t, "a page beside", open(t, b.s.Space()), b.x)
	do(t, "Write", b.s.Space().Write(2, padded("\x02\x00\x07\x00\x02\x00"+thing(5, 1)+"\x09")))
	checkThings(t, "a record beside", open(t, b.s.Space()), b.x)
}

// 12.3: a store that isn't there.
func TestNil(t *testing.T) {
	var s *store.Store
	for _, n := range edges() {
		if data, e := s.Get(n); data != "" || e != api.ErrArg {
			t.Errorf("Get(%d): %q, %d", n, data, e)
		}
		if e := s.Drop(n); e != api.ErrArg {
			t.Errorf("Drop(%d): %d", n, e)
		}
		if e := s.Commit(n); e != api.ErrArg {
			t.Errorf("Commit(%d): %d", n, e)
		}
		for _, length := range []int{0, 16384, 16385} {
			if e := s.Put(n, thing(length, 0)); e != api.ErrArg {
				t.Errorf("Put(%d) of %d bytes: %d", n, length, e)
			}
			if n, e := s.Add(thing(length, 0)); n != 0 || e != api.ErrArg {
				t.Errorf("Add of %d bytes: %d, %d", length, n, e)
			}
		}
	}
	if e, f := s.Clear(), s.Abort(); e != api.ErrArg || f != api.ErrArg {
		t.Errorf("Clear: %d; Abort: %d", e, f)
	}
	if s.Len() != 0 || s.Word() != 0 || s.Space() != nil || s.All() == nil || len(slices.Collect(s.All())) != 0 {
		t.Errorf("Len %d, Word %d, Space %v", s.Len(), s.Word(), s.Space())
	}
}
