package pager_test

import (
	"slices"
	"testing"

	"hibernacle/api"
	"hibernacle/pager"
)

// checkRead asks what is told of a page.
func checkRead(t *testing.T, s *pager.Space, l int, want string, asked api.Errno) {
	t.Helper()
	if data, e := s.Read(l); data != want || e != asked {
		t.Errorf("Read(%d): %.20q, %d, asked for %.20q, %d", l, data, e, want, asked)
	}
}

// checkAll asks which pages there are.
func checkAll(t *testing.T, s *pager.Space, want ...int) {
	t.Helper()
	if got := slices.Collect(s.All()); !slices.Equal(got, want) || s.Len() != len(want) {
		t.Errorf("All: %v, Len: %d, asked for %v", got, s.Len(), want)
	}
}

// checkNone asks that there are no such pages.
func checkNone(t *testing.T, s *pager.Space, row ...int) {
	t.Helper()
	was := told(s)
	for _, l := range row {
		checkRead(t, s, l, "", api.ErrNone)
		for _, size := range []int{0, 511, 512, 513} {
			if e := s.Write(l, string(make([]byte, size))); e != api.ErrNone {
				t.Errorf("Write(%d) of %d bytes: %d", l, size, e)
			}
		}
		if e := s.Drop(l); e != api.ErrNone {
			t.Errorf("Drop(%d): %d", l, e)
		}
	}
	if told(s) != was {
		t.Errorf("what was refused changed the space: %s", told(s))
	}
}

// 8.2: an empty space has no page.
func TestNoPages(t *testing.T) {
	s := format(t, newDisk(t, 64))
	checkNone(t, s, append(strange(), 0, 1, 2, 127, 128, 511)...)
	checkAll(t, s)
}

// 8.2: pages come, are written, read and dropped, in memory and behind a
// commit.
func TestPages(t *testing.T) {
	d := newDisk(t, 2048)
	s := format(t, d)
	alloc(t, s, 200)
	for range 2 {
		checkRead(t, s, 0, nothing, api.OK)
		checkRead(t, s, 199, nothing, api.OK)
		checkNone(t, s, append(strange(), 200, 511)...)
		for _, l := range []int{0, 127, 128, 199} {
			do(t, "Write", s.Write(l, full(l)))
			checkRead(t, s, l, full(l), api.OK)
			do(t, "Write", s.Write(l, full(l+1)))
			checkRead(t, s, l, full(l+1), api.OK)
			do(t, "Write", s.Write(l, nothing))
		}
		do(t, "Commit", s.Commit(0))
		s = open(t, d)
	}
	do(t, "Drop", s.Drop(7))
	do(t, "Drop", s.Drop(0))
	checkNone(t, s, 0, 7)
	do(t, "Commit", s.Commit(0))
	checkNone(t, s, 0, 7)
}

// 8.2: a page is written with 512 bytes alone.
func TestWriteSizes(t *testing.T) {
	s := format(t, newDisk(t, 64))
	alloc(t, s, 2)
	do(t, "Write", s.Write(1, full(3)))
	do(t, "Commit", s.Commit(0))
	do(t, "Write", s.Write(0, full(4)))
	was := told(s)
	for _, l := range []int{0, 1} {
		for _, size := range []int{0, 1, 511, 513, 1024} {
			if e := s.Write(l, string(make([]byte, size))); e != api.ErrArg {
				t.Errorf("Write(%d) of %d bytes: %d", l, size, e)
			}
		}
	}
	if told(s) != was {
		t.Errorf("what was refused changed the space: %s", told(s))
	}
	do(t, "Write", s.Write(1, full(5)))
	checkRead(t, s, 0, full(4), api.OK)
	checkRead(t, s, 1, full(5), api.OK)
}

// 8.2: what was written and isn't committed is in memory alone, and is read
// also while the disk is down; what is committed is read from the disk.
func TestReadOfADiskThatIsDown(t *testing.T) {
	d := newDisk(t, 64)
	s := format(t, d)
	alloc(t, s, 2)
	do(t, "Commit", s.Commit(4))
	do(t, "Write", s.Write(1, full(1)))
	before := lookAt(d)
	alloc(t, s, 1)
	do(t, "Write", s.Write(2, full(2)))
	if !lookAt(d).equal(before) {
		t.Errorf("what isn't committed was written")
	}
	d.Fail(nil, -1, 0)
	checkRead(t, s, 0, "", api.ErrDown)
	checkRead(t, s, 1, full(1), api.OK)
	checkRead(t, s, 2, full(2), api.OK)
	checkRead(t, s, 3, "", api.ErrNone)
	checkRead(t, s, -1, "", api.ErrNone)
	if e := s.Write(0, "short"); e != api.ErrArg {
		t.Errorf("Write on a disk that is down: %d", e)
	}
	alloc(t, s, 1)
	do(t, "Drop", s.Drop(2))
	checkAll(t, s, 0, 1, 3)
	s.Abort()
	checkAll(t, s, 0, 1)
	checkRead(t, s, 1, "", api.ErrDown)
	d.Start()
	checkRead(t, s, 1, nothing, api.OK)
	if s.Word() != 4 || s.Epoch() != 2 || s.Changed() {
		t.Errorf("behind Start: word %d, epoch %d, changed %v", s.Word(), s.Epoch(), s.Changed())
	}
	do(t, "Commit", s.Commit(5))
}

// 8.2: pages come the least one first, till all are there; one that was
// dropped comes again, with zeros.
func TestAlloc(t *testing.T) {
	s := format(t, newDisk(t, 64))
	for l := range 512 {
		if got, e := s.Alloc(); got != l || e != api.OK {
			t.Fatalf("Alloc: %d, %d, asked for %d", got, e, l)
		}
		do(t, "Write", s.Write(l, full(l)))
	}
	was := told(s)
	if l, e := s.Alloc(); l != 0 || e != api.ErrFull || told(s) != was {
		t.Errorf("Alloc of a full space: %d, %d", l, e)
	}
	for _, l := range []int{511, 0, 128, 300} {
		do(t, "Drop", s.Drop(l))
		if got, e := s.Alloc(); got != l || e != api.OK {
			t.Errorf("Alloc: %d, %d, asked for %d", got, e, l)
		}
		checkRead(t, s, l, nothing, api.OK)
	}
	for _, l := range []int{9, 5, 400} {
		do(t, "Drop", s.Drop(l))
	}
	for _, l := range []int{5, 9, 400} {
		if got, e := s.Alloc(); got != l || e != api.OK {
			t.Errorf("Alloc: %d, %d, asked for %d", got, e, l)
		}
	}
	if l, e := s.Alloc(); l != 0 || e != api.ErrFull {
		t.Errorf("Alloc of a full space: %d, %d", l, e)
	}
}

// 8.2: a committed page that was dropped comes again with zeros, also behind
// the commit.
func TestAllocBehindDrop(t *testing.T) {
	d := newDisk(t, 64)
	s := format(t, d)
	alloc(t, s, 3)
	do(t, "Write", s.Write(1, full(9)))
	do(t, "Commit", s.Commit(0))
	do(t, "Drop", s.Drop(1))
	checkAll(t, s, 0, 2)
	alloc(t, s, 1)
	checkAll(t, s, 0, 1, 2)
	checkRead(t, s, 1, nothing, api.OK)
	do(t, "Commit", s.Commit(0))
	checkRead(t, open(t, d), 1, nothing, api.OK)
}

// 8.2: All tells the pages in order, may be left, and be ranged over twice;
// it tells what there was when it was asked for.
func TestAll(t *testing.T) {
	s := format(t, newDisk(t, 2048))
	alloc(t, s, 300)
	for _, l := range []int{0, 2, 128, 298} {
		do(t, "Drop", s.Drop(l))
	}
	do(t, "Commit", s.Commit(0))
	do(t, "Write", s.Write(5, full(5)))
	do(t, "Drop", s.Drop(3))
	alloc(t, s, 2)
	all := s.All()
	var want []int
	for l := range 300 {
		if l != 3 && l != 128 && l != 298 {
			want = append(want, l)
		}
	}
	if s.Len() != len(want) {
		t.Errorf("Len: %d, asked for %d", s.Len(), len(want))
	}
	for range 2 {
		var got []int
		for l := range all {
			got = append(got, l)
			if e := s.Drop(l); e != api.OK && e != api.ErrNone {
				t.Fatalf("Drop: %d", e)
			}
			if len(got) == 100 {
				break
			}
		}
		if !slices.Equal(got, want[:100]) {
			t.Errorf("All, left: %v", got)
		}
	}
	if got := slices.Collect(all); !slices.Equal(got, want) {
		t.Errorf("All: %v, asked for %v", got, want)
	}
	checkAll(t, s, want[100:]...)
	s.Abort()
	checkAll(t, s, append([]int{1}, append([]int{3}, want[3:]...)...)...)
}

// 8.2: a space with all of the pages.
func TestAllOfAFullSpace(t *testing.T) {
	s := format(t, newDisk(t, 16))
	alloc(t, s, 512)
	n := 0
	for l := range s.All() {
		if l != n {
			t.Fatalf("All tells %d, asked for %d", l, n)
		}
		n++
	}
	if n != 512 || s.Len() != 512 {
		t.Errorf("All tells %d pages, Len %d", n, s.Len())
	}
	for l := range s.All() {
		do(t, "Drop", s.Drop(l))
	}
	checkAll(t, s)
}
