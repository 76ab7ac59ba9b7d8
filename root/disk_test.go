package root_test

import (
	"slices"
	"testing"

	"hibernacle/api"
	"hibernacle/disk"
	"hibernacle/root"
)

func newDisk(t *testing.T, sectors int) *disk.Disk {
	t.Helper()
	d, e := disk.New(sectors)
	if e != api.OK {
		t.Fatalf("New(%d): %d", sectors, e)
	}
	return d
}

// do asks that something is done.
func do(t *testing.T, name string, e api.Errno) {
	t.Helper()
	if e != api.OK {
		t.Fatalf("%s: %d", name, e)
	}
}

// look is all that is told of a disk.
type look struct {
	down    bool
	done    int
	waiting []int
	sectors []string
}

func lookAt(d *disk.Disk) look {
	l := look{down: d.Down(), done: d.Done(), waiting: d.Waiting()}
	for i := range d.Sectors() {
		s, _ := d.Read(i)
		l.sectors = append(l.sectors, d.Out(i), s)
	}
	return l
}

func (l look) equal(m look) bool {
	return l.down == m.down && l.done == m.done && slices.Equal(l.waiting, m.waiting) && slices.Equal(l.sectors, m.sectors)
}

// checkLoad asks what a disk's roots are, and that asking changes nothing.
func checkLoad(t *testing.T, name string, d *disk.Disk, newer, older root.Root, want api.Errno) {
	t.Helper()
	before := lookAt(d)
	x, y, e := root.Load(d)
	if x != newer || y != older || e != want {
		t.Errorf("Load of %s: %v, %v, %d, asked for %v, %v, %d", name, x, y, e, newer, older, want)
	}
	if !lookAt(d).equal(before) {
		t.Errorf("Load of %s changed it", name)
	}
}

// checkRefused asks that a root isn't stored, and that nothing changes.
func checkRefused(t *testing.T, name string, d *disk.Disk, x root.Root, want api.Errno) {
	t.Helper()
	before := lookAt(d)
	if e := root.Store(d, x); e != want {
		t.Errorf("Store of %v on %s: %d, asked for %d", x, name, e, want)
	}
	if !lookAt(d).equal(before) {
		t.Errorf("Store of %v on %s changed it", x, name)
	}
}

// 5.3: no disk, and those that are too small, have no roots.
func TestLoadOfNoDisk(t *testing.T) {
	checkLoad(t, "no disk", nil, root.Root{}, root.Root{}, api.ErrArg)
	for sectors := 1; sectors < 16; sectors++ {
		d := newDisk(t, sectors)
		checkLoad(t, "a small disk", d, root.Root{}, root.Root{}, api.ErrArg)
		if sectors > 4 {
			do(t, "Write", d.Write(4, block(r(1, 4, 2, 0))))
			checkLoad(t, "a small disk with a block", d, root.Root{}, root.Root{}, api.ErrArg)
		}
		d.Fail(nil, -1, 0)
		checkLoad(t, "a small disk that is down", d, root.Root{}, root.Root{}, api.ErrArg)
	}
}

// 5.3: the smallest disk and the greatest one, empty and with a block.
func TestLoadOfAnyDisk(t *testing.T) {
	for _, sectors := range []int{16, 17, 64, 2048} {
		d := newDisk(t, sectors)
		checkLoad(t, "an empty disk", d, root.Root{}, root.Root{}, api.ErrNone)
		one, two := r(1, 4, 2, 0), r(2, 4, 3, 5)
		do(t, "Write", d.Write(4, block(one)))
		checkLoad(t, "a disk with a block that waits", d, one, root.Root{}, api.OK)
		do(t, "Barrier", d.Barrier())
		do(t, "Write", d.Write(0, block(two)))
		checkLoad(t, "a disk with a block, and one that waits", d, two, one, api.OK)
		do(t, "Write", d.Write(4, "HIBR"+block(one)[4:]))
		checkLoad(t, "a disk with a block that is torn", d, two, root.Root{}, api.OK)
		d.Fail([]bool{false, true}, -1, 0)
		checkLoad(t, "a disk that is down", d, root.Root{}, root.Root{}, api.ErrDown)
		d.Start()
		checkLoad(t, "a disk that lost what waited", d, root.Root{}, root.Root{}, api.ErrNone)
	}
}

// 5.3: the blocks are looked for in their sectors alone, and a disk's pages
// may be more than there are.
func TestLoadSectors(t *testing.T) {
	d := newDisk(t, 16)
	for i := range 16 {
		if i != 0 && i != 4 {
			do(t, "Write", d.Write(i, block(r(8+i, 4, 2, i))))
		}
	}
	checkLoad(t, "a disk with blocks elsewhere", d, root.Root{}, root.Root{}, api.ErrNone)
	do(t, "Write", d.Write(0, block(r(2, 512, 511, 1))))
	checkLoad(t, "a disk with a block of more pages", d, r(2, 512, 511, 1), root.Root{}, api.OK)
	do(t, "Write", d.Write(4, block(r(4, 4, 2, 0))))
	checkLoad(t, "a disk with an even block at 4", d, r(2, 512, 511, 1), root.Root{}, api.OK)
	do(t, "Write", d.Write(0, zeros))
	checkLoad(t, "a disk with an even block at 4 alone", d, root.Root{}, root.Root{}, api.ErrHarm)
}

// 5.3: Load reads of a disk whose fuse is to blow, as reading burns nothing.
func TestLoadWithFuse(t *testing.T) {
	d := newDisk(t, 16)
	do(t, "Store", root.Store(d, r(1, 4, 2, 9)))
	d.Fuse(0)
	checkLoad(t, "a disk with a fuse of 0", d, r(1, 4, 2, 9), root.Root{}, api.OK)
	if e := root.Store(d, r(2, 4, 2, 9)); e != api.ErrDown || !d.Down() {
		t.Errorf("Store with a fuse of 0: %d, down %v", e, d.Down())
	}
	checkLoad(t, "a disk whose fuse blew", d, root.Root{}, root.Root{}, api.ErrDown)
}

// 5.3: a root that may not be isn't stored, on whatever disk.
func TestStoreOfStrangers(t *testing.T) {
	up, off := newDisk(t, 2048), newDisk(t, 2048)
	do(t, "Store", root.Store(up, r(1, 16, 2, 7)))
	off.Fail(nil, -1, 0)
	for _, x := range strangers() {
		checkRefused(t, "no disk", nil, x, api.ErrArg)
		checkRefused(t, "a disk", up, x, api.ErrArg)
		checkRefused(t, "a disk that is down", off, x, api.ErrArg)
	}
}

// 5.3: no disk, small ones, and such as are smaller than the root's pages ask
// for, whether up or down.
func TestStoreOnSmallDisks(t *testing.T) {
	for _, pages := range []int{4, 5, 16, 120, 511, 512} {
		x := r(3, pages, pages-1, pages)
		checkRefused(t, "no disk", nil, x, api.ErrArg)
		for _, sectors := range []int{1, 4, 5, 15, 4*pages - 4, 4*pages - 1} {
			if sectors >= 4*pages {
				continue
			}
			d := newDisk(t, sectors)
			checkRefused(t, "a small disk", d, x, api.ErrArg)
			d.Fail(nil, -1, 0)
			checkRefused(t, "a small disk that is down", d, x, api.ErrArg)
		}
	}
}

// 5.3: a root is stored where there are just as many sectors, and where there
// are more; no barrier is laid, and no other sector written.
func TestStore(t *testing.T) {
	for _, x := range roots() {
		for _, sectors := range []int{4 * x.Pages, 4*x.Pages + 1, 2048} {
			if sectors > 2048 {
				continue
			}
			d := newDisk(t, sectors)
			place := root.Place(x.Epoch)
			do(t, "Store", root.Store(d, x))
			if got := d.Waiting(); !slices.Equal(got, []int{place}) || d.Done() != 1 {
				t.Fatalf("behind Store of %v there wait %v, done %d", x, got, d.Done())
			}
			for i := range sectors {
				want := zeros
				if i == place {
					want = block(x)
				}
				if s, _ := d.Read(i); s != want || d.Out(i) != zeros {
					t.Fatalf("behind Store of %v the sector %d has %q, and %q is out", x, i, s, d.Out(i))
				}
			}
			checkLoad(t, "a disk with a root", d, x, root.Root{}, api.OK)
		}
	}
}

// 5.3: a disk that is down takes no root, and loses one that waits.
func TestStoreOnADiskThatIsDown(t *testing.T) {
	d := newDisk(t, 64)
	one, two := r(1, 16, 2, 7), r(2, 16, 3, 9)
	do(t, "Store", root.Store(d, one))
	do(t, "Barrier", d.Barrier())
	do(t, "Store", root.Store(d, two))
	checkLoad(t, "a disk with two", d, two, one, api.OK)
	d.Fail(nil, -1, 0)
	checkRefused(t, "a disk that is down", d, two, api.ErrDown)
	d.Start()
	checkLoad(t, "a disk that lost a root", d, one, root.Root{}, api.OK)
	do(t, "Store", root.Store(d, two))
	d.Fail([]bool{true}, -1, 0)
	d.Start()
	checkLoad(t, "a disk whose second root came out", d, two, one, api.OK)
}

// 5.3: any epoch that may be is stored, and not only the next one.
func TestStoreOfAnyEpoch(t *testing.T) {
	d := newDisk(t, 16)
	for _, step := range []struct{ epoch, newer, older int }{
		{10, 10, 0}, {3, 10, 0}, {9, 10, 9}, {9, 10, 9}, {12, 12, 0}, {11, 12, 11}, {2, 11, 0}, {1, 2, 1},
		{most, most, 0}, {most - 1, most, most - 1},
	} {
		do(t, "Store", root.Store(d, r(step.epoch, 4, 2, step.epoch%1000)))
		newer, older := r(step.newer, 4, 2, step.newer%1000), root.Root{}
		if step.older != 0 {
			older = r(step.older, 4, 2, step.older%1000)
		}
		checkLoad(t, "a disk with any epochs", d, newer, older, api.OK)
	}
}
