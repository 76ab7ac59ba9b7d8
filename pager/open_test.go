package pager_test

import (
	"slices"
	"testing"

	"hibernacle/api"
	"hibernacle/disk"
	"hibernacle/pager"
	"hibernacle/root"
)

// checkNotOpened asks that a disk isn't opened, and that nothing changes.
func checkNotOpened(t *testing.T, name string, d *disk.Disk, want api.Errno) {
	t.Helper()
	before := lookAt(d)
	if s, e := pager.Open(d); s != nil || e != want {
		t.Errorf("Open of %s: %v, %d, asked for %d", name, s, e, want)
	}
	if d != nil && !lookAt(d).equal(before) {
		t.Errorf("Open of %s changed it", name)
	}
}

// checkNotFormatted asks that a disk isn't formatted, and that nothing
// changes.
func checkNotFormatted(t *testing.T, name string, d *disk.Disk, want api.Errno) {
	t.Helper()
	before := lookAt(d)
	if s, e := pager.Format(d); s != nil || e != want {
		t.Errorf("Format of %s: %v, %d, asked for %d", name, s, e, want)
	}
	if d != nil && !lookAt(d).equal(before) {
		t.Errorf("Format of %s changed it", name)
	}
}

// checkOpened asks that a disk has a space as the model, and that opening
// changes nothing of it.
func checkOpened(t *testing.T, name string, d *disk.Disk, m *model) {
	t.Helper()
	before := lookAt(d)
	check(t, "Open of "+name, open(t, d), m)
	if !lookAt(d).equal(before) {
		t.Errorf("Open of %s changed it", name)
	}
}

// checkFormatted formats a disk on which a state is, and of the one ahead of
// it its pages, and asks that it is as the model, also when it is opened.
func checkFormatted(t *testing.T, name string, d *disk.Disk, newest plain, older map[int]bool) {
	t.Helper()
	m, e := formatted(d.Sectors()/4, newest, older)
	do(t, "formatted", e)
	check(t, "Format of "+name, format(t, d), m)
	checkDisk(t, "Format of "+name, d, m.good)
	if len(d.Waiting()) > 0 {
		t.Errorf("behind Format of %s there wait %v", name, d.Waiting())
	}
	checkOpened(t, name+", formatted", d, m)
}

// 8.1: no disk, and those that are too small.
func TestSmallDisks(t *testing.T) {
	for _, sectors := range []int{-1, 0, 2049} {
		d, _ := disk.New(sectors)
		checkNotFormatted(t, "no disk", d, api.ErrArg)
		checkNotOpened(t, "no disk", d, api.ErrArg)
	}
	for sectors := 1; sectors < 16; sectors++ {
		d := newDisk(t, sectors)
		for range 2 {
			checkNotFormatted(t, "a small disk", d, api.ErrArg)
			checkNotOpened(t, "a small disk", d, api.ErrArg)
			d.Fail(nil, -1, 0)
		}
	}
}

// 8.1: new disks of any size: as many pages as there are whole ones, the word
// 0, the first epoch.
func TestFormatOfANewDisk(t *testing.T) {
	for _, sectors := range []int{16, 17, 19, 20, 64, 511, 2047, 2048} {
		d := newDisk(t, sectors)
		checkNotOpened(t, "a disk that was never formatted", d, api.ErrNone)
		s := format(t, d)
		if s.Pages() != sectors/4 || s.Word() != 0 || s.Epoch() != 1 || s.Free() != sectors/4-3 || s.Len() != 0 {
			t.Errorf("%d sectors: %d pages, word %d, epoch %d, %d free", sectors, s.Pages(), s.Word(), s.Epoch(), s.Free())
		}
		checkFormatted(t, "a new disk", newDisk(t, sectors), plain{}, nil)
	}
}

// 8.1: a disk that is down, and one whose fuse is too short for a format.
func TestFormatOfAFailingDisk(t *testing.T) {
	d := newDisk(t, 64)
	d.Fail(nil, -1, 0)
	checkNotFormatted(t, "a disk that is down", d, api.ErrDown)
	checkNotOpened(t, "a disk that is down", d, api.ErrDown)
	for fuse := range 7 {
		d := newDisk(t, 64)
		d.Fuse(fuse)
		if s, e := pager.Format(d); s != nil || e != api.ErrDown || !d.Down() || d.Done() != fuse {
			t.Errorf("Format with a fuse of %d: %v, %d, %d done", fuse, s, e, d.Done())
		}
	}
	d = newDisk(t, 64)
	d.Fuse(7)
	format(t, d)
	checkOpened(t, "a disk whose fuse has come to 0", d, settled(plain{epoch: 1, pages: 16, dir: 2}, nil))
}

// 8.1: a format writes its directory, and its block behind a barrier.
func TestFormatOrder(t *testing.T) {
	for fuse, want := range [][]int{{}, {8}, {8, 9}, {8, 9, 10}, {8, 9, 10, 11}, {}, {4}} {
		d := newDisk(t, 64)
		d.Fuse(fuse)
		pager.Format(d)
		if got := d.Waiting(); !slices.Equal(got, want) {
			t.Errorf("Format with a fuse of %d: there wait %v, asked for %v", fuse, got, want)
		}
	}
}

// 8.1: a disk that has a space is formatted behind it: both are held, and
// only the newest one's pages behind that.
func TestFormatOfASpace(t *testing.T) {
	d := newDisk(t, 66)
	s := format(t, d)
	alloc(t, s, 2)
	do(t, "Commit", s.Commit(5))
	do(t, "Write", s.Write(1, full(1)))
	do(t, "Commit", s.Commit(6))
	// The epoch 2 lay on 3 to 6, the epoch 3 on 3, 7, 8 and 9; of the epoch 1
	// nothing is held any more.
	s = format(t, d)
	if s.Epoch() != 4 || s.Word() != 0 || s.Len() != 0 || s.Pages() != 16 || s.Need() != 1 || s.Changed() {
		t.Errorf("formatted anew: %s", told(s))
	}
	if got, want := s.Held().Bytes()[:2], []byte{1<<2 | 1<<3 | 1<<7, 1<<0 | 1<<1}; got[0] != want[0] || got[1] != want[1] {
		t.Errorf("formatted anew there are held %v, asked for %v", got, want)
	}
	do(t, "Commit", s.Commit(1))
	if got := s.Held().Bytes()[:2]; got[0] != 1<<2|1<<4 || got[1] != 0 {
		t.Errorf("behind one more commit there are held %v", got)
	}
}

// 8.1: the newest block's epoch counts, up to the greatest one.
func TestFormatEpochs(t *testing.T) {
	for _, epoch := range []int{1, 2, 9, most - 2, most - 1} {
		m := sound()
		m.root.Epoch = epoch
		checkOpened(t, "a state of some epoch", m.disk(t, 64), settled(m.plain(), nil))
		checkFormatted(t, "a state of some epoch", m.disk(t, 64), m.plain(), nil)
	}
	m := sound()
	m.root.Epoch = most
	d := m.disk(t, 64)
	checkOpened(t, "a state of the last epoch", d, settled(m.plain(), nil))
	checkNotFormatted(t, "a state of the last epoch", d, api.ErrRange)
	d.Fuse(0)
	checkNotFormatted(t, "a state of the last epoch with a fuse", d, api.ErrRange)
	d.Fail(nil, -1, 0)
	checkNotFormatted(t, "a disk that is down", d, api.ErrDown)
	for _, f := range faults() {
		f.made.root.Epoch = most
		checkNotFormatted(t, f.name+", of the last epoch", f.disk(t), api.ErrRange)
	}
}

// 8.1: no page is free for a directory: ErrRange comes first.
func TestFormatOfAFullDisk(t *testing.T) {
	d := newDisk(t, 16)
	format(t, d)
	checkFormatted(t, "the smallest disk", d, plain{epoch: 1, dir: 2}, nil)
	checkNotFormatted(t, "the smallest disk, formatted twice", d, api.ErrFull)
	d.Fuse(0)
	checkNotFormatted(t, "the smallest disk, with a fuse", d, api.ErrFull)
	d.Fail(nil, -1, 0)
	checkNotFormatted(t, "the smallest disk, down", d, api.ErrDown)

	row := made{root: root.Root{Epoch: 7, Pages: 16, Dir: 2}, place: map[int]int{}}
	row.leaves[3] = 3
	for page := 2; page < 16; page++ {
		row.used = append(row.used, page)
		if page > 3 {
			row.place[496+page] = page
		}
	}
	d = row.disk(t, 64)
	checkOpened(t, "a full disk", d, settled(row.plain(), nil))
	checkNotFormatted(t, "a full disk", d, api.ErrFull)
	checkFormatted(t, "a full space on a greater disk", row.disk(t, 68), row.plain(), nil)
	row.root.Epoch = most
	checkNotFormatted(t, "a full disk of the last epoch", row.disk(t, 64), api.ErrRange)
}

// 8.1: a state on a disk that has more pages than its block tells.
func TestOpenOfFewerPages(t *testing.T) {
	m := sound()
	for _, sectors := range []int{64, 65, 67, 68, 2048} {
		d := m.disk(t, sectors)
		checkOpened(t, "a state on a greater disk", d, settled(m.plain(), nil))
		checkFormatted(t, "a state on a greater disk", d, m.plain(), nil)
	}
	small := made{root: root.Root{Epoch: 1, Pages: 4, Dir: 3, Word: 1<<31 - 1}, used: []int{3}}
	d := small.disk(t, 2048)
	checkOpened(t, "a state of four pages", d, settled(small.plain(), nil))
	s := open(t, d)
	do(t, "Commit", s.Commit(1))
	if e := s.Commit(2); e != api.ErrFull || s.Pages() != 4 {
		t.Errorf("a space of four pages on the greatest disk: %d, %d pages", e, s.Pages())
	}
}

// 8.1: what the newest block tells is no state: it is harmed, and not held.
func TestHarmedStates(t *testing.T) {
	m := sound()
	checkOpened(t, "the sound state", m.disk(t, 80), settled(m.plain(), nil))
	for _, f := range faults() {
		d := f.disk(t)
		checkNotOpened(t, f.name, d, api.ErrHarm)
		d.Fuse(0)
		checkNotOpened(t, f.name+", with a fuse", d, api.ErrHarm)
		d.Fuse(-1)
		checkFormatted(t, f.name, d, plain{epoch: f.made.root.Epoch}, nil)
		d.Fail(nil, -1, 0)
		checkNotOpened(t, f.name+", down", d, api.ErrDown)
	}
}

// other is a state that lies on other pages than the sound one, but for one.
func other(epoch int) made {
	return made{
		root:   root.Root{Epoch: epoch, Pages: 16, Dir: 2, Word: 3},
		leaves: [4]int{0, 0, 3, 0},
		place:  map[int]int{256: 4, 300: 15},
		used:   []int{2, 3, 4, 15},
	}
}

// 8.1: of two blocks that count the newer one is opened, and the one just
// ahead of it is held.
func TestTwoBlocks(t *testing.T) {
	ahead := other(2)
	d := sound().disk(t, 64)
	ahead.lay(t, d)
	checkOpened(t, "two states", d, settled(sound().plain(), ahead.plain().used()))
	checkFormatted(t, "two states", d, sound().plain(), ahead.plain().used())

	behind := other(4)
	d = sound().disk(t, 64)
	behind.lay(t, d)
	checkOpened(t, "two other states", d, settled(behind.plain(), sound().plain().used()))
	checkFormatted(t, "two other states", d, behind.plain(), sound().plain().used())

	far := other(6)
	d = sound().disk(t, 64)
	far.lay(t, d)
	checkOpened(t, "states far from each other", d, settled(far.plain(), nil))
	checkFormatted(t, "states far from each other", d, far.plain(), nil)
}

// 8.1: a state ahead that isn't one isn't held.
func TestHarmedStateAhead(t *testing.T) {
	for _, f := range faults() {
		d := f.disk(t)
		behind := other(4)
		behind.lay(t, d)
		checkOpened(t, f.name+", ahead", d, settled(behind.plain(), nil))
		checkFormatted(t, f.name+", ahead", d, behind.plain(), nil)
	}
}

// 8.1: the newest block's state isn't one, and the one ahead of it is: it is
// harmed, and what is ahead is held till the format is done.
func TestHarmedStateBehind(t *testing.T) {
	for _, f := range faults() {
		d := f.disk(t)
		ahead := other(2)
		ahead.lay(t, d)
		checkNotOpened(t, f.name+", behind", d, api.ErrHarm)
		checkFormatted(t, f.name+", behind", d, plain{epoch: 3}, ahead.plain().used())
	}
}

// 8.1: blocks that are harmed, torn, or not at their places.
func TestHarmedBlocks(t *testing.T) {
	m, ahead := sound(), other(2)
	block, _ := root.Encode(m.root)
	harmed, torn := block[:30]+"\x01"+block[31:], block[:64]+string(make([]byte, 64))
	put := func(d *disk.Disk, sector int, data string) {
		t.Helper()
		do(t, "Write", d.Write(sector, data))
		do(t, "Barrier", d.Barrier())
	}
	for _, bad := range []string{harmed, torn} {
		d := m.disk(t, 64)
		ahead.lay(t, d)
		put(d, 4, bad)
		checkOpened(t, "a newest block that doesn't count", d, settled(ahead.plain(), nil))
		checkFormatted(t, "a newest block that doesn't count", d, ahead.plain(), nil)

		d = m.disk(t, 64)
		ahead.lay(t, d)
		put(d, 0, bad)
		checkOpened(t, "an older block that doesn't count", d, settled(m.plain(), nil))
		checkFormatted(t, "an older block that doesn't count", d, m.plain(), nil)

		d = m.disk(t, 64)
		put(d, 4, bad)
		put(d, 0, bad)
		checkNotOpened(t, "two blocks that don't count", d, api.ErrHarm)
		checkFormatted(t, "two blocks that don't count", d, plain{}, nil)
	}
	d := m.disk(t, 64)
	put(d, 4, torn)
	checkNotOpened(t, "a torn block alone", d, api.ErrNone)
	checkFormatted(t, "a torn block alone", d, plain{}, nil)
	d = newDisk(t, 64)
	put(d, 0, block)
	checkNotOpened(t, "a block not at its place", d, api.ErrHarm)
	checkFormatted(t, "a block not at its place", d, plain{}, nil)
}

// 8.1: what a format does with what waits on the disk: it comes out with the
// first barrier.
func TestFormatBringsOut(t *testing.T) {
	d := newDisk(t, 64)
	fill(t, d, 15, full(9))
	format(t, d)
	if len(d.Waiting()) > 0 || pageAt(d, 15) != full(9) {
		t.Errorf("behind Format there wait %v", d.Waiting())
	}
}
