package disk_test

import (
	"fmt"
	"math/rand"
	"slices"
	"testing"

	"hibernacle/api"
	"hibernacle/disk"
)

// step is a call that changes a disk: its number, and what it is handed.
type step struct {
	call, a, b int
	s          string
	keep       []bool
}

const (
	aWrite = iota
	aBarrier
	aFuse
	aFail
	aStart
	steps
)

// String writes a step so that it may be looked at.
func (x step) String() string {
	return fmt.Sprintf("step %d of %d, %d, %+q, %v", x.call, x.a, x.b, x.s, x.keep)
}

// anyStep is a step on a disk of so many sectors: mostly one that may be.
func anyStep(row *rand.Rand, sectors int) step {
	x := step{call: aWrite}
	if row.Intn(3) == 0 {
		x.call = row.Intn(steps)
	}
	switch x.call {
	case aWrite:
		x.a = row.Intn(sectors+2) - 1
		x.s = full(byte(row.Intn(256)))
		if row.Intn(20) == 0 {
			x.s = x.s[:row.Intn(api.Sector)]
		}
	case aFuse:
		x.a = row.Intn(30) - 2
	case aFail:
		x.a, x.b = row.Intn(12)-2, row.Intn(200)-20
		for range row.Intn(12) {
			x.keep = append(x.keep, row.Intn(2) == 0)
		}
	}
	return x
}

func (x step) on(d *disk.Disk) api.Errno {
	switch x.call {
	case aWrite:
		return d.Write(x.a, x.s)
	case aBarrier:
		return d.Barrier()
	case aFuse:
		d.Fuse(x.a)
	case aFail:
		d.Fail(x.keep, x.a, x.b)
	case aStart:
		d.Start()
	}
	return api.OK
}

// told is a write that waits in the model.
type told struct {
	sector int
	s      string
}

// String writes a write so that it may be looked at.
func (w told) String() string {
	return fmt.Sprintf("%d %+q", w.sector, w.s)
}

// model is a disk as the chapter's words tell it: what is out byte by byte,
// and a row in which what was written last is looked for.
type model struct {
	out   [][]byte
	row   []told
	fused bool
	fuse  int
	down  bool
	done  int
}

func newModel(sectors int) *model {
	m := &model{}
	for range sectors {
		m.out = append(m.out, make([]byte, api.Sector))
	}
	return m
}

// lay has the first so many bytes of a write come out.
func (m *model) lay(w told, size int) {
	for n := range size {
		m.out[w.sector][n] = w.s[n]
	}
}

// burns tells whether a write or a barrier is done.
func (m *model) burns() bool {
	if m.fused && m.fuse == 0 {
		m.down = true
		return false
	}
	m.fuse--
	m.done++
	return true
}

func (m *model) write(i int, s string) api.Errno {
	if m.down {
		return api.ErrDown
	}
	if i < 0 || i >= len(m.out) {
		return api.ErrRange
	}
	if len(s) != api.Sector {
		return api.ErrArg
	}
	if !m.burns() {
		return api.ErrDown
	}
	m.row = append(m.row, told{i, s})
	return api.OK
}

func (m *model) barrier() api.Errno {
	if m.down || !m.burns() {
		return api.ErrDown
	}
	for _, w := range m.row {
		m.lay(w, api.Sector)
	}
	m.row = nil
	return api.OK
}

func (m *model) fail(keep []bool, torn, at int) {
	for place, w := range m.row {
		size := 0
		if place < len(keep) && keep[place] {
			size = api.Sector
		}
		if place == torn {
			size = at
			if size < 0 {
				size = 0
			} else if size > api.Sector {
				size = api.Sector
			}
		}
		m.lay(w, size)
	}
	m.row, m.fused, m.down = nil, false, true
}

func (m *model) start() {
	if m.down {
		m.row, m.fused, m.down = nil, false, false
	}
}

func (m *model) do(x step) api.Errno {
	switch x.call {
	case aWrite:
		return m.write(x.a, x.s)
	case aBarrier:
		return m.barrier()
	case aFuse:
		m.fused, m.fuse = x.a >= 0, x.a
	case aFail:
		m.fail(x.keep, x.a, x.b)
	case aStart:
		m.start()
	}
	return api.OK
}

func (m *model) read(i int) (string, api.Errno) {
	if m.down {
		return "", api.ErrDown
	}
	if i < 0 || i >= len(m.out) {
		return "", api.ErrRange
	}
	for _, w := range slices.Backward(m.row) {
		if w.sector == i {
			return w.s, api.OK
		}
	}
	return string(m.out[i]), api.OK
}

func (m *model) look() look {
	l := look{down: m.down, done: m.done}
	for _, w := range m.row {
		l.waiting = append(l.waiting, w.sector)
	}
	for _, b := range m.out {
		l.out = append(l.out, string(b))
	}
	return l
}

// checkModel asks that a disk tells what its model tells.
func checkModel(t *testing.T, d *disk.Disk, m *model) {
	t.Helper()
	if got, want := lookAt(d), m.look(); !got.equal(want) {
		t.Fatalf("the disk is %v, asked for %v", got, want)
	}
	for i := -1; i <= len(m.out); i++ {
		got, e := d.Read(i)
		if want, f := m.read(i); got != want || e != f {
			t.Fatalf("Read(%d): %q, %d, asked for %q, %d", i, got, e, want, f)
		}
	}
}

// 4.1 to 4.3: any steps one behind the other, on a disk, or on a clone of it
// from some step on, tell what the chapter's words tell.
func TestAnySteps(t *testing.T) {
	row := rand.New(rand.NewSource(41))
	for range 300 {
		sectors := 1 + row.Intn(6)
		d, m := newDisk(t, sectors), newModel(sectors)
		for range 100 {
			x := anyStep(row, sectors)
			if row.Intn(8) == 0 {
				old := d
				before := lookAt(old)
				d = d.Clone()
				defer func() {
					if !lookAt(old).equal(before) {
						t.Error("a disk changed with its clone")
					}
				}()
			}
			if got, want := x.on(d), m.do(x); got != want {
				t.Fatalf("%v: %d, asked for %d", x, got, want)
			}
			checkModel(t, d, m)
		}
	}
}

// 4.1 to 4.3: two disks that the same is asked of tell the same.
func TestSameSteps(t *testing.T) {
	row := rand.New(rand.NewSource(43))
	one, other := newDisk(t, 5), newDisk(t, 5)
	for range 2000 {
		x := anyStep(row, 5)
		if e, f := x.on(one), x.on(other); e != f || !lookAt(one).equal(lookAt(other)) {
			t.Fatalf("%v: %d and %d", x, e, f)
		}
	}
}

// may tells all that a sector may have behind a failure: what was out, what
// one of its writes told, or a beginning of such a one on what was ahead of
// it.
func may(out string, row []told, sector int) map[string]bool {
	whole := []string{out}
	list := map[string]bool{out: true}
	for _, w := range row {
		if w.sector != sector {
			continue
		}
		for _, under := range whole {
			for at := range api.Sector + 1 {
				list[w.s[:at]+under[at:]] = true
			}
		}
		whole = append(whole, w.s)
	}
	return list
}

// 4.4: behind a failure a sector has what was out, or what one of its writes
// told, or a beginning of it on what was ahead; one torn write alone.
func TestBehindAnyFailure(t *testing.T) {
	row := rand.New(rand.NewSource(44))
	for range 300 {
		d := newDisk(t, 4)
		for i := range 4 {
			do(t, "Write", d.Write(i, full('a'+byte(i))))
		}
		do(t, "Barrier", d.Barrier())
		var waits []told
		for n := range row.Intn(9) {
			w := told{row.Intn(3), full('A' + byte(n))}
			do(t, "Write", d.Write(w.sector, w.s))
			waits = append(waits, w)
		}
		if row.Intn(2) == 0 {
			d.Fuse(0)
			d.Barrier()
		}
		f := step{call: aFail, a: row.Intn(len(waits)+2) - 1, b: row.Intn(140) - 5}
		for range row.Intn(10) {
			f.keep = append(f.keep, row.Intn(2) == 0)
		}
		f.on(d)
		d.Start()
		for i := range 4 {
			s, e := d.Read(i)
			if !may(full('a'+byte(i)), waits, i)[s] || e != api.OK {
				t.Fatalf("behind %v sector %d has %q, %d of %v", f, i, s, e, waits)
			}
		}
	}
}

// 4.4: what was written ahead of a barrier is there behind any failure, if it
// wasn't written again, for each failure that a row of some writes may have.
func TestAheadOfABarrier(t *testing.T) {
	for bits := range 16 {
		for torn := -1; torn <= 4; torn++ {
			d := newDisk(t, 8)
			for i := range 4 {
				do(t, "Write", d.Write(i, full('a'+byte(i))))
			}
			do(t, "Barrier", d.Barrier())
			for i := range 4 {
				do(t, "Write", d.Write(4+i%2, full('A'+byte(i))))
			}
			var keep []bool
			for place := range 4 {
				keep = append(keep, bits>>place&1 == 1)
			}
			d.Fail(keep, torn, 17*torn)
			d.Start()
			for i := range 4 {
				checkRead(t, d, i, full('a'+byte(i)))
				checkOut(t, d, i, full('a'+byte(i)))
			}
			checkRead(t, d, 6, full(0))
		}
	}
}

// 4.1, 4.3: a great disk with a long row, each sector written and read.
func TestGreatDisk(t *testing.T) {
	d := newDisk(t, 2048)
	for round := range 3 {
		for i := range 2048 {
			do(t, "Write", d.Write(i, full(byte(i+round))))
		}
		for i := range 2048 {
			checkRead(t, d, i, full(byte(i+round)))
		}
	}
	if got := len(d.Waiting()); got != 3*2048 {
		t.Errorf("%d writes wait", got)
	}
	do(t, "Barrier", d.Barrier())
	checkOut(t, d, 2047, full(1))
	checkOut(t, d, 0, full(2))
}
