package pager_test

import (
	"math/rand"
	"slices"
	"testing"

	"hibernacle/api"
	"hibernacle/disk"
	"hibernacle/pager"
	"hibernacle/root"
)

// cut is one way in which the power goes.
type cut struct {
	keep     []bool
	torn, at int
}

// cuts are ways in which the power goes while so many writes wait: all of
// them where they are few, else some; and each of the writes is torn, at
// fewer places where there are many.
func cuts(from *rand.Rand, n, most int) []cut {
	var list []cut
	if n <= 12 && 1<<n <= most {
		for bits := range 1 << n {
			list = append(list, cut{chosen(n, bits), -1, 0})
		}
	} else {
		list = append(list, cut{nil, -1, 0}, cut{chosen(n, -1), -1, 0})
		for range most {
			list = append(list, cut{chosen(n, from.Int()), -1, 0})
		}
	}
	tears := []int{-1, 0, 1, 8, 12, 20, 24, 64, 116, 120, 127, 128}
	if n > 12 {
		tears = []int{1 + from.Intn(127)}
	}
	for i := range n {
		for _, at := range tears {
			list = append(list, cut{chosen(n, from.Int()), i, at}, cut{chosen(n, 1<<i-1), i, at})
		}
	}
	return list
}

// chosen is a list that keeps what bits tell, and goes over them again where
// it is longer than they are.
func chosen(n, bits int) []bool {
	keep := make([]bool, n)
	for i := range keep {
		keep[i] = bits>>(i%62)&1 == 1
	}
	return keep
}

// checkCut asks what is opened of a disk whose power went while a space had
// its state as it was, or the new one: one of them, and one can go on with
// it. It tells whether it was the new one.
func checkCut(t *testing.T, name string, d *disk.Disk, was, next plain, older map[int]bool) bool {
	t.Helper()
	b := &both{t, open(t, d), nil, d}
	switch b.s.Epoch() {
	case was.epoch:
		// The block ahead counts no more where the new one was torn over it.
		_, ahead, _ := root.Load(d)
		if ahead == (root.Root{}) {
			older = nil
		}
		b.m = settled(was, older)
	case next.epoch:
		b.m = settled(next, was.used())
	default:
		t.Fatalf("%s: opened is the epoch %d", name, b.s.Epoch())
	}
	check(t, name, b.s, b.m)
	isNew := b.s.Epoch() == next.epoch
	// To go on is to change something, and to commit it.
	b.alloc(1)
	b.drop(b.m.logical()[0])
	b.commit(99)
	b.check(name + ", gone on")
	return isNew
}

// checkFailures lets a commit fail at every single write, with many choices
// of what comes out.
func (b *both) checkFailures(from *rand.Rand, word, most int) {
	b.t.Helper()
	next, taken, e := b.m.ahead(word)
	do(b.t, "ahead", e)
	total := 4*len(taken) + 3
	for fuse := range total + 2 {
		base := b.d.Clone()
		s := open(b.t, base)
		repeat(b.t, s, b.m)
		base.Fuse(fuse)
		e := s.Commit(word)
		if (e == api.OK) != (fuse >= total) || e != api.OK && e != api.ErrDown {
			b.t.Fatalf("Commit with a fuse of %d: %d", fuse, e)
		}
		held := b.m.held()
		for _, sector := range base.Waiting() {
			if held[sector/4] {
				b.t.Fatalf("Commit writes the page %d, that is held", sector/4)
			}
		}
		seen := map[bool]int{}
		for _, c := range cuts(from, len(base.Waiting()), most) {
			d := base.Clone()
			d.Fail(c.keep, c.torn, c.at)
			d.Start()
			seen[checkCut(b.t, "a cut commit", d, b.m.good, next, b.m.older)]++
		}
		// Only while the block waits may it be either of them.
		if seen[false] > 0 && fuse >= total || seen[true] > 0 && fuse <= total-2 {
			b.t.Fatalf("with a fuse of %d of %d: %v", fuse, total, seen)
		}
		if fuse == total-1 && (seen[true] == 0 || seen[false] == 0) {
			b.t.Fatalf("while the block waits: %v", seen)
		}
	}
}

// 8.5: a failure at every single write of a commit.
func TestFailures(t *testing.T) {
	t.Parallel()
	from := rand.New(rand.NewSource(8))
	b := newBoth(t, 64)
	b.alloc(1)
	b.checkFailures(from, 1, 1<<8)
	b.commit(1)
	b.write(0, full(7))
	b.alloc(1)
	b.checkFailures(from, 2, 60)
	b.commit(2)
	b.drop(1)
	b.checkFailures(from, 3, 60)
	b.commit(3)
	b.checkFailures(from, 4, 16)
	b.commit(4)
	b.drop(0)
	b.checkFailures(from, 5, 16)
}

// 8.5: a failure at every single write of a commit of several leaves.
func TestFailuresOfManyPages(t *testing.T) {
	t.Parallel()
	from := rand.New(rand.NewSource(88))
	b := newBoth(t, 256)
	b.alloc(258)
	for l := range 250 {
		b.drop(3 + l)
	}
	b.commit(1)
	b.write(0, full(1))
	b.write(257, full(2))
	b.drop(254)
	b.checkFailures(from, 2, 2)
	b.commit(2)
	b.write(1, full(3))
	b.drop(256, 257)
	b.checkFailures(from, 3, 2)
}

// 8.5: a failure at every single write of a format of a disk that has a
// space: what is opened is that one, or the new one.
func TestFailuresOfFormat(t *testing.T) {
	from := rand.New(rand.NewSource(888))
	b := newBoth(t, 64)
	b.alloc(2)
	b.commit(5)
	b.write(1, full(1))
	b.commit(6)
	m, _ := formatted(16, b.m.good, b.m.older)
	for fuse := range 9 {
		base := b.d.Clone()
		base.Fuse(fuse)
		if s, e := pager.Format(base); (e == api.OK) != (fuse >= 7) || (s == nil) != (fuse < 7) {
			t.Fatalf("Format with a fuse of %d: %v, %d", fuse, s, e)
		}
		for _, sector := range base.Waiting() {
			if b.m.held()[sector/4] {
				t.Fatalf("Format writes the page %d, that is held", sector/4)
			}
		}
		for _, c := range cuts(from, len(base.Waiting()), 16) {
			d := base.Clone()
			d.Fail(c.keep, c.torn, c.at)
			d.Start()
			isNew := checkCut(t, "a cut format", d, b.m.good, m.good, b.m.older)
			if isNew && fuse < 6 || !isNew && fuse >= 7 {
				t.Fatalf("Format with a fuse of %d: a new one: %v", fuse, isNew)
			}
		}
	}
}

// 8.5: a failure at every single write of a format of a new disk: there is no
// space, or the new one, and the disk may be formatted again.
func TestFailuresOfTheFirstFormat(t *testing.T) {
	from := rand.New(rand.NewSource(8888))
	for fuse := range 9 {
		base := newDisk(t, 64)
		base.Fuse(fuse)
		pager.Format(base)
		for _, c := range cuts(from, len(base.Waiting()), 16) {
			d := base.Clone()
			d.Fail(c.keep, c.torn, c.at)
			d.Start()
			newest := plain{}
			if s, e := pager.Open(d); e == api.OK {
				newest = plain{epoch: 1, pages: 16, dir: 2}
				check(t, "the first format, cut", s, settled(newest, nil))
			} else if e != api.ErrNone || s != nil {
				t.Fatalf("Open behind a first format that was cut: %v, %d", s, e)
			}
			if newest.epoch == 1 && fuse < 6 || newest.epoch == 0 && fuse >= 7 {
				t.Fatalf("Format with a fuse of %d: opened is %d", fuse, newest.epoch)
			}
			checkFormatted(t, "a disk whose format was cut", d, newest, nil)
		}
	}
}

// logical is a logical page, mostly one of those that are there.
func (b *both) logical(from *rand.Rand) int {
	there := b.m.logical()
	switch {
	case from.Intn(20) == 0:
		return strange()[from.Intn(len(strange()))]
	case len(there) == 0 || from.Intn(6) == 0:
		return from.Intn(512)
	}
	return there[from.Intn(len(there))]
}

// step does one thing to the space and to the model.
func (b *both) step(from *rand.Rand) {
	b.t.Helper()
	l := b.logical(from)
	switch from.Intn(12) {
	case 0, 1:
		b.alloc(1 + from.Intn(3))
	case 2:
		// Pages far on come only behind those ahead.
		b.alloc(from.Intn(260))
		b.drop(b.m.logical()[from.Intn(len(b.m.data)+1):]...)
	case 3, 4, 5:
		data := full(from.Intn(1000))
		if from.Intn(8) == 0 {
			data = (data + data)[:[]int{0, 1, 511, 513, 1024}[from.Intn(5)]]
		}
		b.write(l, data)
	case 6, 7:
		b.drop(l)
	case 8:
		b.abort()
	case 9:
		b.again(from)
	default:
		_, bad := words()
		word := append(bad, from.Intn(1<<31), from.Intn(1<<31), from.Intn(1<<31), from.Intn(1<<31))
		b.try(from, word[from.Intn(len(word))])
	}
}

// again opens the disk anew, behind a failure or not, or formats it.
func (b *both) again(from *rand.Rand) {
	b.t.Helper()
	if from.Intn(2) == 0 {
		b.d.Fail(nil, -1, 0)
		if got, want := told(b.s), b.m.told(true); got != want {
			b.t.Fatalf("on a disk that is down: told\n%.600s\nasked for\n%.600s", got, want)
		}
		b.d.Start()
	}
	if from.Intn(4) > 0 {
		b.s = open(b.t, b.d)
		b.m.abort()
		return
	}
	m, want := formatted(b.d.Sectors()/4, b.m.good, b.m.older)
	s, e := pager.Format(b.d)
	if e != want {
		b.t.Fatalf("Format: %d, asked for %d", e, want)
	}
	if e == api.OK {
		b.s, b.m = s, m
	}
}

// try commits, now and then on a disk whose power goes amid it.
func (b *both) try(from *rand.Rand, word int) {
	b.t.Helper()
	next, taken, e := b.m.ahead(word)
	total := 4*len(taken) + 3
	if e != api.OK || from.Intn(3) > 0 {
		b.commit(word)
		return
	}
	fuse := from.Intn(total)
	if from.Intn(2) == 0 {
		fuse = total - 1
	}
	b.d.Fuse(fuse)
	if e := b.s.Commit(word); e != api.ErrDown {
		b.t.Fatalf("Commit with a fuse of %d of %d: %d", fuse, total, e)
	}
	checkEmpty(b.t, "a space that is gone", b.s)
	n := len(b.d.Waiting())
	b.d.Fail(chosen(n, from.Int()), from.Intn(n+1)-1, from.Intn(129))
	b.d.Start()
	b.s = open(b.t, b.d)
	newest, ahead, _ := root.Load(b.d)
	switch {
	case newest.Epoch == next.epoch && fuse == total-1:
		b.m = settled(next, b.m.good.used())
	case newest.Epoch == b.m.good.epoch && ahead.Epoch == 0:
		b.m = settled(b.m.good, nil)
	default:
		b.m = settled(b.m.good, b.m.older)
	}
}

// 8.5: any steps, held against plain states.
func TestAnySteps(t *testing.T) {
	t.Parallel()
	sizes := []int{16, 20, 30, 64, 200, 1000, 2048}
	for seed := range 60 {
		from := rand.New(rand.NewSource(int64(seed)))
		b := newBoth(t, sizes[seed%len(sizes)])
		for n := range 150 {
			b.step(from)
			if n%5 == 0 {
				b.check("any steps")
			}
		}
		b.check("any steps")
	}
}

// 8.5: what is told of a space hangs on its disk alone: an iterator that was
// left, and any questions, change nothing.
func TestQuestionsChangeNothing(t *testing.T) {
	b := newBoth(t, 64)
	b.alloc(4)
	b.commit(3)
	b.write(2, full(2))
	was, before := told(b.s), lookAt(b.d)
	for range b.s.All() {
		break
	}
	if told(b.s) != was || !lookAt(b.d).equal(before) || !slices.Equal(slices.Collect(b.s.All()), []int{0, 1, 2, 3}) {
		t.Errorf("questions changed something: %s", told(b.s))
	}
}
