package disk_test

import (
	"math"
	"testing"

	"hibernacle/api"
	"hibernacle/disk"
)

// 4.1, 4.2: a fuse is how many writes and barriers are done; the next one has
// the disk go down, and what waits still waits.
func TestFuse(t *testing.T) {
	for n := range 5 {
		for _, write := range []bool{true, false} {
			d := newDisk(t, 4)
			do(t, "Write", d.Write(3, full('w')))
			d.Fuse(n)
			for i := range n {
				do(t, "Write", d.Write(i%3, full('a')))
			}
			if d.Down() {
				t.Fatalf("a fuse of %d that has come to 0: the disk is down", n)
			}
			checkRead(t, d, 3, full('w'))
			waited := d.Waiting()
			if e := writeOrBarrier(d, write); e != api.ErrDown {
				t.Fatalf("behind a fuse of %d: %d", n, e)
			}
			checkDown(t, d)
			checkWaiting(t, d, waited...)
			checkOut(t, d, 3, full(0))
			if d.Done() != n+1 {
				t.Fatalf("behind a fuse of %d: done %d", n, d.Done())
			}
		}
	}
}

func writeOrBarrier(d *disk.Disk, write bool) api.Errno {
	if write {
		return d.Write(0, full('x'))
	}
	return d.Barrier()
}

// 4.1, 4.2: barriers burn a fuse as writes do, with nothing that waits too.
func TestFuseBurntByBarriers(t *testing.T) {
	d := newDisk(t, 2)
	d.Fuse(4)
	do(t, "Barrier", d.Barrier())
	do(t, "Write", d.Write(1, full('a')))
	do(t, "Barrier", d.Barrier())
	do(t, "Barrier", d.Barrier())
	if e := d.Barrier(); e != api.ErrDown || !d.Down() || d.Done() != 4 {
		t.Fatalf("the fifth: %d, down %v, done %d", e, d.Down(), d.Done())
	}
	checkOut(t, d, 1, full('a'))
}

// 4.1, 4.2: what reads, and what is refused, burns no fuse.
func TestFuseNotBurnt(t *testing.T) {
	d := newDisk(t, 2)
	d.Fuse(1)
	for range 5 {
		checkRead(t, d, 0, full(0))
		d.Read(-1)
		d.Read(2)
		d.Write(-1, full('x'))
		d.Write(2, full('x'))
		d.Write(0, "short")
		d.Waiting()
		d.Out(0)
		d.Done()
		d.Sectors()
		d.Clone()
		d.Start()
		d.Down()
	}
	do(t, "Write", d.Write(0, full('a')))
	for range 5 {
		checkRead(t, d, 0, full('a'))
		d.Write(0, "short")
	}
	if e := d.Barrier(); d.Down() != true || e != api.ErrDown || d.Done() != 1 {
		t.Fatalf("Barrier at 0: %d, down %v, done %d", e, d.Down(), d.Done())
	}
}

// 4.2: a fuse that is laid anew counts from then on, whatever was left of the
// one ahead of it; one below 0 is none.
func TestFuseLaidAnew(t *testing.T) {
	d := newDisk(t, 1)
	d.Fuse(2)
	do(t, "Write", d.Write(0, full('a')))
	d.Fuse(3)
	for range 3 {
		do(t, "Write", d.Write(0, full('b')))
	}
	d.Fuse(1)
	do(t, "Barrier", d.Barrier())
	for _, n := range []int{-1, -2, math.MinInt} {
		d.Fuse(0)
		d.Fuse(n)
		for range 50 {
			do(t, "Write", d.Write(0, full('c')))
			do(t, "Barrier", d.Barrier())
		}
	}
	d.Fuse(math.MaxInt)
	do(t, "Barrier", d.Barrier())
	d.Fuse(5)
	d.Fuse(0)
	if e := d.Write(0, full('d')); e != api.ErrDown {
		t.Fatalf("Write at a fuse of 0: %d", e)
	}
	checkDown(t, d)
}

// 4.2: a fuse has no disk be up that is down, and is gone when it is started.
func TestFuseOfDown(t *testing.T) {
	for _, n := range []int{0, 1, 2, -1} {
		d := newDisk(t, 1)
		d.Fail(nil, 0, 0)
		d.Fuse(n)
		checkDown(t, d)
		d.Start()
		for range 9 {
			do(t, "Write", d.Write(0, full('a')))
		}
	}
}

// 4.2: a failure's and a start's fuses are gone.
func TestFuseGone(t *testing.T) {
	d := newDisk(t, 1)
	d.Fuse(1)
	d.Fail(nil, 0, 0)
	d.Start()
	for range 9 {
		do(t, "Barrier", d.Barrier())
	}
	d.Fuse(0)
	d.Barrier()
	d.Start()
	for range 9 {
		do(t, "Barrier", d.Barrier())
	}
	if d.Done() != 18 {
		t.Errorf("done: %d", d.Done())
	}
}

// failure is what the power takes of the writes of TestFail, and what the
// sectors then have.
type failure struct {
	name     string
	keep     []bool
	torn, at int
	want     [3]string
}

// failures are of the writes a to 0, b to 1, c to 0, d to 2, and e to 0, over
// sectors of o.
func failures() []failure {
	o := full('o')
	all := []bool{true, true, true, true, true}
	rows := []failure{
		{"of nothing", nil, -1, 0, [3]string{o, o, o}},
		{"of an empty list", []bool{}, -1, 128, [3]string{o, o, o}},
		{"of a list that is false", make([]bool, 9), -1, 128, [3]string{o, o, o}},
		{"of all", all, -1, 0, [3]string{full('e'), full('b'), full('d')}},
		{"of a longer list", append(all, true, true), -1, 0, [3]string{full('e'), full('b'), full('d')}},
		{"of a shorter list", all[:3], -1, 0, [3]string{full('c'), full('b'), o}},
		{"of the first", all[:1], -1, 0, [3]string{full('a'), o, o}},
		{"of the last", []bool{4: true}, -1, 0, [3]string{full('e'), o, o}},
		{"of the first and the fourth", []bool{true, false, false, true, false}, -1, 0, [3]string{full('a'), o, full('d')}},
		{"of a write beyond the row", []bool{false, true, 7: true}, 7, 64, [3]string{o, full('b'), o}},
		{"torn as many as there are", all, 5, 0, [3]string{full('e'), full('b'), full('d')}},
		{"torn far below", nil, math.MinInt, 64, [3]string{o, o, o}},
		{"torn far beyond", all[:2], math.MaxInt, 64, [3]string{full('a'), full('b'), o}},
		{"the last torn on the third", all, 4, 5, [3]string{torn('e', 5, 'c'), full('b'), full('d')}},
		{"the last torn on the first", []bool{true, 4: true}, 4, 5, [3]string{torn('e', 5, 'a'), o, o}},
		{"the last torn, not kept", []bool{true}, 4, 5, [3]string{torn('e', 5, 'a'), o, o}},
		{"the third torn, the last one above", all, 2, 5, [3]string{full('e'), full('b'), full('d')}},
		{"the third torn, the last one not kept", all[:4], 2, 5, [3]string{torn('c', 5, 'a'), full('b'), full('d')}},
		{"the first torn alone", nil, 0, 100, [3]string{torn('a', 100, 'o'), o, o}},
		{"the second torn alone", nil, 1, 127, [3]string{o, torn('b', 127, 'o'), o}},
	}
	sizes := map[int]int{math.MinInt: 0, -1: 0, 0: 0, 1: 1, 64: 64, 127: 127, 128: 128, 129: 128, math.MaxInt: 128}
	for at, size := range sizes {
		got := [3]string{o, o, torn('d', size, 'o')}
		rows = append(rows, failure{"the fourth torn, not kept", nil, 3, at, got},
			failure{"the fourth torn, kept", []bool{3: true}, 3, at, got},
			failure{"the fourth torn beyond the list", []bool{false}, 3, at, got})
	}
	return rows
}

// failing is a disk with the writes that failures tells of, up or down.
func failing(t *testing.T, down bool) *disk.Disk {
	t.Helper()
	d := newDisk(t, 3)
	for i := range 3 {
		do(t, "Write", d.Write(i, full('o')))
	}
	do(t, "Barrier", d.Barrier())
	d.Fuse(5)
	write(t, d, 0, 1, 0, 2, 0)
	if down && d.Barrier() != api.ErrDown {
		t.Fatal("the fuse of 5 did six")
	}
	return d
}

// 4.2: what comes out of what waits, of disks that are up and of disks that
// are down already; then nothing waits, and nothing is done till the start.
func TestFail(t *testing.T) {
	for _, f := range failures() {
		for _, down := range []bool{false, true} {
			d := failing(t, down)
			if d.Down() != down {
				t.Fatalf("%s: down %v", f.name, d.Down())
			}
			d.Fail(f.keep, f.torn, f.at)
			checkDown(t, d)
			checkWaiting(t, d)
			if d.Done() != 9 {
				t.Fatalf("%s: done %d", f.name, d.Done())
			}
			for i, want := range f.want {
				if got := d.Out(i); got != want {
					t.Fatalf("%s at %d: out %d has %q, asked for %q", f.name, f.at, i, got, want)
				}
			}
			d.Start()
			for i, want := range f.want {
				checkRead(t, d, i, want)
				checkOut(t, d, i, want)
			}
			checkWaiting(t, d)
			do(t, "Barrier", d.Barrier())
			checkOut(t, d, 0, f.want[0])
		}
	}
}

// 4.2: a second failure finds nothing that waits.
func TestFailTwice(t *testing.T) {
	d := failing(t, false)
	d.Fail([]bool{true}, 1, 3)
	before := lookAt(d)
	d.Fail([]bool{true, true, true}, 2, 60)
	d.Fail(nil, 0, 128)
	checkDown(t, d)
	if after := lookAt(d); !after.equal(before) {
		t.Fatalf("behind the second failure %v, ahead of it %v", after, before)
	}
}

// 4.2: a failure of a disk on which nothing waits has it go down alone.
func TestFailOfNothing(t *testing.T) {
	d := newDisk(t, 2)
	write(t, d, 1)
	do(t, "Barrier", d.Barrier())
	d.Fail([]bool{true, true}, 0, 1)
	checkDown(t, d)
	d.Start()
	checkRead(t, d, 0, full(0))
	checkRead(t, d, 1, full('a'))
}

// 4.2: what is torn at first may be torn again by a later failure, on what
// came out by then.
func TestTornAgain(t *testing.T) {
	d := newDisk(t, 1)
	for n, at := range []int{90, 40, 10} {
		do(t, "Write", d.Write(0, full('a'+byte(n))))
		d.Fail(nil, 0, at)
		d.Start()
	}
	want := full('c')[:10] + full('b')[10:40] + full('a')[40:90] + full(0)[90:]
	checkRead(t, d, 0, want)
	checkOut(t, d, 0, want)
}

// 4.2: a start changes nothing of a disk that is up: not its fuse, not what
// waits.
func TestStartOfUp(t *testing.T) {
	d := newDisk(t, 3)
	write(t, d, 2, 0)
	d.Fuse(2)
	d.Start()
	checkWaiting(t, d, 2, 0)
	checkRead(t, d, 2, full('a'))
	do(t, "Barrier", d.Barrier())
	checkOut(t, d, 2, full('a'))
	d.Start()
	do(t, "Write", d.Write(1, full('x')))
	d.Start()
	if e := d.Barrier(); e != api.ErrDown {
		t.Fatalf("a start took the fuse: %d", e)
	}
}

// 4.2: of a disk that is down by its fuse what still waited is gone with the
// start.
func TestStartOfDown(t *testing.T) {
	d := failing(t, true)
	checkWaiting(t, d, 0, 1, 0, 2, 0)
	d.Start()
	if d.Down() || d.Done() != 9 {
		t.Fatalf("behind the start: down %v, done %d", d.Down(), d.Done())
	}
	checkWaiting(t, d)
	for i := range 3 {
		checkRead(t, d, i, full('o'))
		checkOut(t, d, i, full('o'))
	}
	d.Fail([]bool{true, true, true}, 2, 5)
	d.Start()
	do(t, "Barrier", d.Barrier())
	for i := range 3 {
		checkRead(t, d, i, full('o'))
	}
}
