package pager_test

import (
	"fmt"
	"math"
	"slices"
	"testing"

	"hibernacle/api"
	"hibernacle/disk"
	"hibernacle/pager"
)

// words are such as may be, and such as may not.
func words() (may, strange []int) {
	return []int{0, 1, 255, 1 << 30, 1<<31 - 1}, []int{math.MinInt, -1 << 31, -1, 1 << 31, 1<<31 + 1, 1 << 32, math.MaxInt}
}

// checkRefused asks that a commit is refused, and changes nothing.
func checkRefused(t *testing.T, name string, s *pager.Space, d *disk.Disk, word int, want api.Errno) {
	t.Helper()
	was, before := told(s), lookAt(d)
	if e := s.Commit(word); e != want {
		t.Errorf("%s: Commit(%d): %d, asked for %d", name, word, e, want)
	}
	if told(s) != was || !lookAt(d).equal(before) {
		t.Errorf("%s: a Commit(%d) that was refused changed something", name, word)
	}
}

// both does things to a space and to the model, and asks that they are told
// alike.
type both struct {
	t *testing.T
	s *pager.Space
	m *model
	d *disk.Disk
}

func newBoth(t *testing.T, sectors int) *both {
	t.Helper()
	d := newDisk(t, sectors)
	m, e := formatted(sectors/4, plain{}, nil)
	do(t, "formatted", e)
	return &both{t, format(t, d), m, d}
}

func (b *both) alloc(n int) {
	b.t.Helper()
	for range n {
		l, e := b.s.Alloc()
		if want, f := b.m.alloc(); l != want || e != f {
			b.t.Fatalf("Alloc: %d, %d, asked for %d, %d", l, e, want, f)
		}
	}
}

func (b *both) write(l int, data string) {
	b.t.Helper()
	if e, want := b.s.Write(l, data), b.m.write(l, data); e != want {
		b.t.Fatalf("Write(%d) of %d bytes: %d, asked for %d", l, len(data), e, want)
	}
}

func (b *both) drop(row ...int) {
	b.t.Helper()
	for _, l := range row {
		if e, want := b.s.Drop(l), b.m.drop(l); e != want {
			b.t.Fatalf("Drop(%d): %d, asked for %d", l, e, want)
		}
	}
}

func (b *both) abort() {
	b.s.Abort()
	b.m.abort()
}

// commit commits, and asks that just those pages that may be taken were
// written.
func (b *both) commit(word int) []int {
	b.t.Helper()
	held, done := map[int]string{}, b.d.Done()
	for page := range b.m.held() {
		held[page] = pageAt(b.d, page)
	}
	taken, want := b.m.commit(word)
	if e := b.s.Commit(word); e != want {
		b.t.Fatalf("Commit(%d): %d, asked for %d", word, e, want)
	}
	if want != api.OK {
		return nil
	}
	for page, data := range held {
		if pageAt(b.d, page) != data {
			b.t.Fatalf("Commit(%d) wrote the page %d, that was held", word, page)
		}
	}
	if n := b.d.Done() - done; n != 4*len(taken)+3 || len(b.d.Waiting()) > 0 {
		b.t.Fatalf("Commit(%d): %d writes and barriers for the pages %v, and there wait %v", word, n, taken, b.d.Waiting())
	}
	checkDisk(b.t, "Commit", b.d, b.m.good)
	return taken
}

// check asks that all that is told is as the model's, now and opened anew.
func (b *both) check(name string) {
	b.t.Helper()
	check(b.t, name, b.s, b.m)
	checkOpened(b.t, name, b.d, settled(b.m.good, b.m.older))
}

// 8.3: a word that may be is committed, one that may not is refused.
func TestWords(t *testing.T) {
	b := newBoth(t, 64)
	may, strange := words()
	for _, word := range may {
		b.alloc(1)
		for _, bad := range strange {
			checkRefused(t, "a strange word", b.s, b.d, bad, api.ErrRange)
		}
		b.commit(word)
		b.check("a word")
		b.drop(0)
		b.commit(word)
	}
}

// 8.3: behind the last epoch nothing is committed any more.
func TestLastEpoch(t *testing.T) {
	m := sound()
	m.root.Epoch = most - 1
	d := m.disk(t, 64)
	b := &both{t, open(t, d), settled(m.plain(), nil), d}
	b.write(0, full(1))
	b.commit(1)
	b.check("the last epoch")
	checkRefused(t, "the last epoch", b.s, d, 2, api.ErrRange)
	b.alloc(20)
	checkRefused(t, "the last epoch, with too many pages", b.s, d, 2, api.ErrRange)
	d.Fuse(0)
	checkRefused(t, "the last epoch, with a fuse", b.s, d, 2, api.ErrRange)
	d.Fail(nil, -1, 0)
	checkRefused(t, "the last epoch, on a disk that is down", b.s, d, 2, api.ErrRange)
	d.Start()
	b.check("the last epoch")
	b.abort()
	b.check("the last epoch")
}

// 8.3: a commit of nothing takes a page for its directory.
func TestCommitOfNothing(t *testing.T) {
	b := newBoth(t, 64)
	for n := range 10 {
		if taken := b.commit(n); len(taken) != 1 || b.s.Epoch() != 2+n || b.s.Word() != n {
			t.Errorf("a commit of nothing took %v: epoch %d, word %d", taken, b.s.Epoch(), b.s.Word())
		}
		b.check("a commit of nothing")
	}
	b.alloc(3)
	b.commit(0)
	for range 3 {
		if taken := b.commit(0); len(taken) != 1 {
			t.Errorf("a commit of nothing took %v", taken)
		}
		b.check("a commit of nothing")
	}
}

// 8.3: just as many free pages as are needed, and one fewer.
func TestCommitOfAFullDisk(t *testing.T) {
	for pages := 6; pages < 20; pages++ {
		b := newBoth(t, 4*pages)
		b.alloc(pages - 4)
		if b.s.Need() != pages-2 || b.s.Free() != pages-3 {
			t.Fatalf("%d pages: Need %d, Free %d", pages, b.s.Need(), b.s.Free())
		}
		may, strange := words()
		checkRefused(t, "one free page too few", b.s, b.d, may[0], api.ErrFull)
		checkRefused(t, "one free page too few", b.s, b.d, strange[0], api.ErrRange)
		b.d.Fuse(0)
		checkRefused(t, "one free page too few, with a fuse", b.s, b.d, may[0], api.ErrFull)
		b.d.Fail(nil, -1, 0)
		checkRefused(t, "one free page too few, down", b.s, b.d, may[0], api.ErrFull)
		b.d.Start()
		b.check("one free page too few")
		b.drop(0)
		b.write(pages-5, full(3))
		b.commit(7)
		b.check("no free page left")
		checkRefused(t, "no free page left", b.s, b.d, 0, api.ErrFull)
		b.write(1, full(1))
		checkRefused(t, "no free page left", b.s, b.d, 0, api.ErrFull)
		b.abort()
		b.check("no free page left")
	}
}

// 8.3: by hand, which pages a commit takes: the least ones, for data by their
// logical numbers, for leaves, for the directory.
func TestTakenPages(t *testing.T) {
	b := newBoth(t, 2048)
	took := func(name string, want ...int) {
		t.Helper()
		if taken := b.commit(0); !slices.Equal(taken, want) {
			t.Errorf("%s: taken %v, asked for %v", name, taken, want)
		}
		b.check(name)
	}
	b.alloc(3)
	took("three pages", 3, 4, 5, 6, 7)
	b.write(2, full(2))
	b.write(0, full(0))
	took("two of them", 8, 9, 10, 11)
	// Of the pages up to 11 only 2 isn't held: the epoch 1 lay there.
	b.drop(1)
	took("one that was dropped", 2, 12)
	// The epoch 2 lay on 3 to 7; 4 is held by the epoch 3 still.
	took("nothing", 3)
	b.drop(0, 2)
	took("no page any more", 4)
	b.alloc(130)
	for l := range 127 {
		b.drop(l + 1)
	}
	// The epoch 5 lies on 2, 3, 8 and 9.
	took("two leaves", 5, 6, 7, 10, 11, 12)
	b.write(129, full(129))
	took("one of two leaves", 2, 3, 8)
	b.drop(128, 129)
	took("a leaf that tells nothing any more", 4)
}

// writes asks in which order a commit writes: with every fuse.
func (b *both) writes(word int) {
	b.t.Helper()
	next, taken, e := b.m.ahead(word)
	do(b.t, "ahead", e)
	var row []int
	for _, page := range taken {
		row = append(row, 4*page, 4*page+1, 4*page+2, 4*page+3)
	}
	total := len(row) + 3
	for fuse := range total {
		d := b.d.Clone()
		s := open(b.t, d)
		repeat(b.t, s, b.m)
		d.Fuse(fuse)
		if e := s.Commit(word); e != api.ErrDown || !d.Down() {
			b.t.Fatalf("Commit with a fuse of %d: %d", fuse, e)
		}
		want := row[:min(fuse, len(row))]
		if fuse > len(row) {
			want = []int{next.epoch % 2 * 4}[:fuse-len(row)-1]
		}
		if got := d.Waiting(); !slices.Equal(got, want) {
			b.t.Fatalf("Commit with a fuse of %d: there wait %v, asked for %v", fuse, got, want)
		}
		for l := range next.place {
			if fuse > len(row) && pageAt(d, next.place[l]) != next.data[l] {
				b.t.Fatalf("with a fuse of %d the page %d isn't out", fuse, l)
			}
		}
	}
	b.d.Fuse(total)
	b.commit(word)
	if b.d.Down() {
		b.t.Fatalf("a commit burns more than %d", total)
	}
	b.d.Fuse(-1)
}

// repeat does to a space that was opened what was done to the model since its
// last commit.
func repeat(t *testing.T, s *pager.Space, m *model) {
	t.Helper()
	for l := range 512 {
		if _, was := m.good.data[l]; !was {
			s.Alloc()
		}
	}
	for l := range 512 {
		if data, there := m.data[l]; !there {
			do(t, "Drop", s.Drop(l))
		} else if m.touched[l] {
			do(t, "Write", s.Write(l, data))
		}
	}
}

// 8.3: in which order a commit writes: data, leaves, the directory, a
// barrier, the block, a barrier.
func TestCommitOrder(t *testing.T) {
	b := newBoth(t, 2048)
	b.writes(1)
	b.alloc(3)
	b.writes(2)
	b.write(2, full(2))
	b.write(0, full(0))
	b.writes(3)
	b.alloc(300)
	b.drop(100)
	for l := range 120 {
		b.drop(3 + l + 128)
	}
	b.commit(4)
	b.alloc(1)
	b.write(299, full(7))
	b.write(123, full(9))
	b.writes(5)
	b.drop(0)
	b.writes(6)
}

// 8.3: a space whose commit was cut is gone: at every call.
func TestGone(t *testing.T) {
	for fuse := range 4*4 + 3 {
		d := newDisk(t, 64)
		s := format(t, d)
		alloc(t, s, 2)
		do(t, "Write", s.Write(1, full(1)))
		all := s.All()
		d.Fuse(fuse)
		if e := s.Commit(5); e != api.ErrDown {
			t.Fatalf("Commit with a fuse of %d: %d", fuse, e)
		}
		checkGone(t, fmt.Sprintf("a fuse of %d", fuse), s)
		d.Fail(nil, -1, 0)
		d.Start()
		checkGone(t, fmt.Sprintf("a fuse of %d, started", fuse), s)
		if got := slices.Collect(all); !slices.Equal(got, []int{0, 1}) {
			t.Errorf("what All told is %v", got)
		}
	}
	d := newDisk(t, 64)
	s := format(t, d)
	d.Fail(nil, -1, 0)
	if e := s.Commit(0); e != api.ErrDown {
		t.Errorf("Commit on a disk that is down: %d", e)
	}
	checkGone(t, "a disk that was down", s)
}

// checkGone asks what a space that is gone tells.
func checkGone(t *testing.T, name string, s *pager.Space) {
	t.Helper()
	may, wrong := words()
	for _, n := range slices.Concat(may, wrong, strange()) {
		if e := s.Commit(n); e != api.ErrDown {
			t.Errorf("%s: Commit(%d): %d", name, n, e)
		}
		if data, e := s.Read(n); data != "" || e != api.ErrDown {
			t.Errorf("%s: Read(%d): %q, %d", name, n, data, e)
		}
		if e := s.Drop(n); e != api.ErrDown {
			t.Errorf("%s: Drop(%d): %d", name, n, e)
		}
		for _, size := range []int{0, 511, 512, 513} {
			if e := s.Write(n, string(make([]byte, size))); e != api.ErrDown {
				t.Errorf("%s: Write(%d) of %d bytes: %d", name, n, size, e)
			}
		}
	}
	for range 2 {
		if l, e := s.Alloc(); l != 0 || e != api.ErrDown {
			t.Errorf("%s: Alloc: %d, %d", name, l, e)
		}
		checkEmpty(t, name, s)
		s.Abort()
	}
}

// 8.3: Abort behind each kind of change, and behind none.
func TestAbort(t *testing.T) {
	b := newBoth(t, 1024)
	b.alloc(5)
	b.abort()
	b.check("pages that came")
	b.alloc(130)
	b.write(3, full(3))
	b.write(129, full(129))
	b.commit(8)
	was := told(b.s)
	changes := map[string]func(){
		"nothing":           func() {},
		"a page came":       func() { b.alloc(1) },
		"a page written":    func() { b.write(3, full(4)) },
		"a page dropped":    func() { b.drop(3) },
		"a leaf dropped":    func() { b.drop(128, 129) },
		"came again":        func() { b.drop(3); b.alloc(1) },
		"came and dropped":  func() { b.alloc(1); b.drop(130) },
		"written, dropped":  func() { b.write(3, full(5)); b.drop(3) },
		"all dropped":       func() { b.drop(b.m.logical()...) },
		"a commit refused":  func() { b.alloc(200); b.commit(1) },
		"written as it was": func() { b.write(3, full(3)) },
	}
	for name, change := range changes {
		for range 2 {
			before := lookAt(b.d)
			change()
			b.check(name)
			b.abort()
			b.check(name + ", aborted")
			if told(b.s) != was || !lookAt(b.d).equal(before) {
				t.Errorf("%s, aborted: %.200s", name, told(b.s))
			}
		}
	}
	b.abort()
	b.commit(9)
	b.check("committed behind aborts")
}
