package disk_test

import (
	"fmt"
	"math"
	"slices"
	"strings"
	"testing"

	"hibernacle/api"
	"hibernacle/disk"
)

// full is a sector's bytes, all of them c.
func full(c byte) string {
	return strings.Repeat(string([]byte{c}), api.Sector)
}

// torn is a beginning of so many bytes c on a sector of bytes under.
func torn(c byte, at int, under byte) string {
	return full(c)[:at] + full(under)[at:]
}

func newDisk(t *testing.T, sectors int) *disk.Disk {
	t.Helper()
	d, e := disk.New(sectors)
	if e != api.OK || d == nil {
		t.Fatalf("New(%d): %v, %d", sectors, d, e)
	}
	return d
}

// do asks that a write or a barrier is done.
func do(t *testing.T, name string, e api.Errno) {
	t.Helper()
	if e != api.OK {
		t.Fatalf("%s: %d", name, e)
	}
}

// write has sectors be full of bytes, one behind the other: a letter each,
// from a on.
func write(t *testing.T, d *disk.Disk, sectors ...int) {
	t.Helper()
	for n, i := range sectors {
		do(t, "Write", d.Write(i, full('a'+byte(n))))
	}
}

func checkRead(t *testing.T, d *disk.Disk, i int, want string) {
	t.Helper()
	if got, e := d.Read(i); got != want || e != api.OK {
		t.Fatalf("Read(%d): %q, %d, asked for %q", i, got, e, want)
	}
}

func checkOut(t *testing.T, d *disk.Disk, i int, want string) {
	t.Helper()
	if got := d.Out(i); got != want {
		t.Fatalf("Out(%d): %q, asked for %q", i, got, want)
	}
}

func checkWaiting(t *testing.T, d *disk.Disk, want ...int) {
	t.Helper()
	if got := d.Waiting(); !slices.Equal(got, want) {
		t.Fatalf("Waiting: %v, asked for %v", got, want)
	}
}

// checkDown asks that a disk is down, does nothing, and stays as it was.
func checkDown(t *testing.T, d *disk.Disk) {
	t.Helper()
	before := lookAt(d)
	for _, i := range []int{0, -1, d.Sectors() - 1, d.Sectors()} {
		if s, e := d.Read(i); s != "" || e != api.ErrDown {
			t.Fatalf("Read(%d) of a disk that is down: %q, %d", i, s, e)
		}
		for _, s := range []string{full('d'), "", "short"} {
			if e := d.Write(i, s); e != api.ErrDown {
				t.Fatalf("Write(%d, %q) on a disk that is down: %d", i, s, e)
			}
		}
	}
	if e := d.Barrier(); e != api.ErrDown {
		t.Fatalf("Barrier of a disk that is down: %d", e)
	}
	if after := lookAt(d); !d.Down() || !after.equal(before) {
		t.Fatalf("behind what a disk that is down refused: %v, ahead of it %v", after, before)
	}
}

// look is all that is told of a disk but by reading and writing.
type look struct {
	down    bool
	done    int
	waiting []int
	out     []string
}

func lookAt(d *disk.Disk) look {
	l := look{down: d.Down(), done: d.Done(), waiting: d.Waiting()}
	for i := range d.Sectors() {
		l.out = append(l.out, d.Out(i))
	}
	return l
}

// String writes sectors so that they may be looked at.
func (l look) String() string {
	return fmt.Sprintf("down %v, done %d, waiting %v, out %+q", l.down, l.done, l.waiting, l.out)
}

func (l look) equal(m look) bool {
	return l.down == m.down && l.done == m.done && slices.Equal(l.waiting, m.waiting) && slices.Equal(l.out, m.out)
}

// 4.1: the chapter's example: a write torn at 1 of which all comes out else.
func TestExample(t *testing.T) {
	d := newDisk(t, 4)
	do(t, "Write", d.Write(2, full('o')))
	do(t, "Barrier", d.Barrier())
	do(t, "Write", d.Write(2, full('n')))
	d.Fail([]bool{true}, 0, 1)
	d.Start()
	checkRead(t, d, 2, "n"+strings.Repeat("o", 127))
}

// 4.1: there are from 1 to 2048 sectors, all of them 0 at first.
func TestNew(t *testing.T) {
	for _, n := range []int{1, 2, 4, 16, 128, 2047, 2048} {
		d := newDisk(t, n)
		if d.Sectors() != n || d.Down() || d.Done() != 0 {
			t.Fatalf("New(%d): %d sectors, down %v, done %d", n, d.Sectors(), d.Down(), d.Done())
		}
		checkWaiting(t, d)
		for i := range n {
			checkRead(t, d, i, full(0))
			checkOut(t, d, i, full(0))
		}
	}
}

// 4.1: other numbers of sectors there may not be.
func TestNewRefused(t *testing.T) {
	for _, n := range []int{0, -1, -2048, 2049, 2050, 4096, math.MinInt, math.MaxInt} {
		if d, e := disk.New(n); d != nil || e != api.ErrArg {
			t.Errorf("New(%d): %v, %d", n, d, e)
		}
	}
}

// 4.1: a new disk has no fuse.
func TestNewHasNoFuse(t *testing.T) {
	d := newDisk(t, 1)
	for n := range 5000 {
		do(t, "Write", d.Write(0, full(byte(n))))
		if n%1000 == 0 {
			do(t, "Barrier", d.Barrier())
		}
	}
	if d.Down() || d.Done() != 5005 {
		t.Errorf("down %v, done %d", d.Down(), d.Done())
	}
}

// 4.1: what is read is what was written last, waiting or not; Out tells of
// what came out alone.
func TestReadLast(t *testing.T) {
	d := newDisk(t, 3)
	do(t, "Write", d.Write(1, full('a')))
	checkRead(t, d, 1, full('a'))
	checkOut(t, d, 1, full(0))
	do(t, "Write", d.Write(1, full('b')))
	checkRead(t, d, 1, full('b'))
	checkRead(t, d, 0, full(0))
	checkRead(t, d, 2, full(0))
	checkOut(t, d, 1, full(0))
	do(t, "Barrier", d.Barrier())
	checkRead(t, d, 1, full('b'))
	checkOut(t, d, 1, full('b'))
	do(t, "Write", d.Write(1, full('c')))
	checkRead(t, d, 1, full('c'))
	checkOut(t, d, 1, full('b'))
	checkOut(t, d, 0, full(0))
	checkOut(t, d, 2, full(0))
}

// 4.1: a sector has any bytes, each at its place.
func TestAnyBytes(t *testing.T) {
	d := newDisk(t, 2)
	for _, first := range []int{0, 100, 200} {
		var s []byte
		for n := range api.Sector {
			s = append(s, byte(first+n))
		}
		do(t, "Write", d.Write(1, string(s)))
		checkRead(t, d, 1, string(s))
		do(t, "Barrier", d.Barrier())
		checkRead(t, d, 1, string(s))
		checkOut(t, d, 1, string(s))
	}
}

// 4.1: sectors that aren't there, and texts that aren't 128 bytes long: in
// this order, and each ahead of what a fuse does.
func TestRefused(t *testing.T) {
	for _, fuse := range []int{-1, 0, 3} {
		d := newDisk(t, 4)
		write(t, d, 3, 0)
		do(t, "Barrier", d.Barrier())
		write(t, d, 1)
		d.Fuse(fuse)
		before := lookAt(d)
		for _, i := range []int{-1, 4, 5, 2048, math.MinInt, math.MaxInt} {
			if s, e := d.Read(i); s != "" || e != api.ErrRange {
				t.Errorf("Read(%d): %q, %d", i, s, e)
			}
			for _, s := range []string{full('x'), "", "short"} {
				if e := d.Write(i, s); e != api.ErrRange {
					t.Errorf("Write(%d, %q): %d", i, s, e)
				}
			}
			checkOut(t, d, i, "")
		}
		for _, s := range []string{"", "x", full('x')[1:], full('x') + "x", full('x') + full('x')} {
			for i := range 4 {
				if e := d.Write(i, s); e != api.ErrArg {
					t.Errorf("Write(%d) of %d bytes: %d", i, len(s), e)
				}
			}
		}
		if after := lookAt(d); !after.equal(before) {
			t.Errorf("fuse %d: behind what was refused %v, ahead of it %v", fuse, after, before)
		}
		for i, want := range []byte{'b', 'a', 0, 'a'} {
			checkRead(t, d, i, full(want))
		}
	}
}

// 4.1, 4.3: what waits stands in a row with all writes, those of one sector
// too; a barrier brings all of it out, so that the last one counts.
func TestBarrier(t *testing.T) {
	d := newDisk(t, 4)
	write(t, d, 2, 0, 2, 2, 3, 0)
	checkWaiting(t, d, 2, 0, 2, 2, 3, 0)
	for i := range 4 {
		checkOut(t, d, i, full(0))
	}
	do(t, "Barrier", d.Barrier())
	checkWaiting(t, d)
	for i, want := range []byte{'f', 0, 'd', 'e'} {
		checkRead(t, d, i, full(want))
		checkOut(t, d, i, full(want))
	}
	if d.Done() != 7 {
		t.Errorf("done: %d", d.Done())
	}
}

// 4.1, 4.3: a barrier with nothing that waits is done, too, and changes no
// sector.
func TestBarrierOfNothing(t *testing.T) {
	d := newDisk(t, 2)
	do(t, "Barrier", d.Barrier())
	do(t, "Barrier", d.Barrier())
	checkRead(t, d, 0, full(0))
	write(t, d, 0)
	do(t, "Barrier", d.Barrier())
	do(t, "Barrier", d.Barrier())
	checkRead(t, d, 0, full('a'))
	checkOut(t, d, 0, full('a'))
	checkWaiting(t, d)
	if d.Done() != 5 {
		t.Errorf("done: %d", d.Done())
	}
}

// 4.3: Out has a sector's bytes of a disk that is down, too.
func TestOutDown(t *testing.T) {
	d := newDisk(t, 2)
	write(t, d, 1)
	do(t, "Barrier", d.Barrier())
	do(t, "Write", d.Write(1, full('b')))
	d.Fuse(0)
	d.Barrier()
	checkDown(t, d)
	checkOut(t, d, 1, full('a'))
	checkOut(t, d, 0, full(0))
	checkOut(t, d, 2, "")
	checkOut(t, d, -1, "")
}

// 4.3: a clone goes on by itself, and so does the disk it was made of.
func TestClone(t *testing.T) {
	d := newDisk(t, 3)
	write(t, d, 0, 1)
	do(t, "Barrier", d.Barrier())
	write(t, d, 1, 2)
	d.Fuse(4)
	c := d.Clone()
	if !lookAt(c).equal(lookAt(d)) {
		t.Fatalf("the clone is %v, its disk %v", lookAt(c), lookAt(d))
	}
	before := lookAt(d)
	do(t, "the clone's Write", c.Write(0, full('x')))
	do(t, "the clone's Write", c.Write(2, full('y')))
	checkWaiting(t, c, 1, 2, 0, 2)
	do(t, "the clone's Barrier", c.Barrier())
	if after := lookAt(d); !after.equal(before) {
		t.Fatalf("behind the clone's steps %v, ahead of them %v", after, before)
	}
	for i, want := range []byte{'a', 'a', 'b'} {
		checkRead(t, d, i, full(want))
	}
	before = lookAt(c)
	for n := range 4 {
		do(t, "Write", d.Write(0, full('0'+byte(n))))
	}
	if d.Barrier() != api.ErrDown || !d.Down() {
		t.Fatalf("the disk's fuse isn't as it was")
	}
	d.Fail([]bool{true, true, true}, 3, 5)
	if after := lookAt(c); !after.equal(before) || c.Down() {
		t.Fatalf("behind the disk's steps %v, ahead of them %v", after, before)
	}
	for i, want := range []byte{'x', 'a', 'y'} {
		checkRead(t, c, i, full(want))
	}
	do(t, "the clone's Barrier", c.Barrier())
	if c.Barrier() != api.ErrDown {
		t.Fatalf("the clone's fuse isn't the disk's")
	}
}

// 4.3: the rows of a disk and of its clone share no room, whichever of them
// has a write wait first.
func TestCloneSharesNoRoom(t *testing.T) {
	for waiting := range 9 {
		d := newDisk(t, 4)
		for range waiting {
			write(t, d, 0)
		}
		c := d.Clone()
		do(t, "Write", d.Write(1, full('d')))
		do(t, "the clone's Write", c.Write(2, full('c')))
		do(t, "Barrier", d.Barrier())
		do(t, "the clone's Barrier", c.Barrier())
		checkOut(t, d, 1, full('d'))
		checkOut(t, d, 2, full(0))
		checkOut(t, c, 1, full(0))
		checkOut(t, c, 2, full('c'))
	}
}

// 4.3: a clone of a disk that is down is down, with what still waits.
func TestCloneDown(t *testing.T) {
	d := newDisk(t, 2)
	write(t, d, 0, 1)
	d.Fuse(0)
	d.Barrier()
	c := d.Clone()
	checkDown(t, c)
	checkWaiting(t, c, 0, 1)
	c.Fail([]bool{true}, -1, 0)
	c.Start()
	checkRead(t, c, 0, full('a'))
	checkRead(t, c, 1, full(0))
	checkDown(t, d)
	checkWaiting(t, d, 0, 1)
	checkOut(t, d, 0, full(0))
}

// 4.3: what is told shares no memory, and what is handed in stays.
func TestSharesNothing(t *testing.T) {
	d := newDisk(t, 3)
	write(t, d, 2, 1, 0)
	list := d.Waiting()
	_ = append(list, 7)
	for n := range list {
		list[n] = 9
	}
	checkWaiting(t, d, 2, 1, 0)
	one, other := d.Waiting(), d.Waiting()
	one[0] = 9
	if other[0] != 2 {
		t.Errorf("two answers share memory: %v", other)
	}
	write(t, d, 1)
	if !slices.Equal(other, []int{2, 1, 0}) {
		t.Errorf("what was told changed: %v", other)
	}
	keep := []bool{true, false, true, false, true}
	d.Fail(keep[:3], 3, 9)
	if !slices.Equal(keep, []bool{true, false, true, false, true}) {
		t.Errorf("Fail made %v of its list", keep)
	}
}

// 4.2: the list that a failure was told isn't kept.
func TestKeepIsNotKept(t *testing.T) {
	d := newDisk(t, 2)
	keep := []bool{false, true}
	write(t, d, 0, 1)
	d.Fail(keep, -1, 0)
	keep[0] = true
	d.Start()
	checkRead(t, d, 0, full(0))
	checkRead(t, d, 1, full('b'))
	write(t, d, 0, 1)
	d.Fail(nil, -1, 0)
	d.Start()
	checkRead(t, d, 0, full(0))
}

// 4.3: a nil disk is down, and each of its calls ends.
func TestNilDisk(t *testing.T) {
	var d *disk.Disk
	for range 2 {
		if d.Sectors() != 0 || d.Done() != 0 || d.Waiting() != nil || d.Clone() != nil || !d.Down() {
			t.Fatalf("a nil disk: %d sectors, done %d, waiting %v, clone %v, down %v",
				d.Sectors(), d.Done(), d.Waiting(), d.Clone(), d.Down())
		}
		for _, i := range []int{0, -1, 5} {
			if s, e := d.Read(i); s != "" || e != api.ErrArg {
				t.Fatalf("Read(%d) of a nil disk: %q, %d", i, s, e)
			}
			for _, s := range []string{full('a'), "", "short"} {
				if e := d.Write(i, s); e != api.ErrArg {
					t.Fatalf("Write(%d, %q) on a nil disk: %d", i, s, e)
				}
			}
			if s := d.Out(i); s != "" {
				t.Fatalf("Out(%d) of a nil disk: %q", i, s)
			}
		}
		if e := d.Barrier(); e != api.ErrArg {
			t.Fatalf("Barrier of a nil disk: %d", e)
		}
		d.Fuse(0)
		d.Fuse(3)
		d.Fail(nil, 0, 0)
		d.Fail([]bool{true}, 0, 5)
		d.Start()
	}
}
