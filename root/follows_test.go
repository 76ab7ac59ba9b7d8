package root_test

import (
	"encoding/binary"
	"fmt"
	"math/rand"
	"testing"

	"hibernacle/api"
	"hibernacle/disk"
	"hibernacle/root"
)

// kinds are what a block may be by the chapter's words.
const (
	counts = iota
	empty
	torn
	harmed
)

// kind is what a sector is, and the root of one that counts: it is asked
// whether the block of the root that its bytes tell is those bytes.
func kind(s string) (int, root.Root) {
	b := []byte(s)
	x := r(int(binary.BigEndian.Uint64(b)), int(binary.BigEndian.Uint32(b[12:])), int(binary.BigEndian.Uint32(b[16:])),
		int(binary.BigEndian.Uint32(b[20:])))
	may := x.Epoch >= 1 && x.Epoch <= most && x.Pages >= 4 && x.Pages <= 512 && x.Dir >= 2 && x.Dir <= x.Pages-1 &&
		x.Word <= 1<<31-1
	switch {
	case may && block(x) == s:
		return counts, x
	case s == zeros:
		return empty, root.Root{}
	case s[:8] != s[120:]:
		return torn, root.Root{}
	}
	return harmed, root.Root{}
}

// newest is what Newest tells of two sectors by the chapter's words.
func newest(a, b string) (root.Root, root.Root, api.Errno) {
	k, x := kind(a)
	l, y := kind(b)
	if k == counts && x.Epoch%2 == 1 {
		k = harmed
	}
	if l == counts && y.Epoch%2 == 0 {
		l = harmed
	}
	switch {
	case k == counts && l == counts && x.Epoch-y.Epoch == 1:
		return x, y, api.OK
	case k == counts && l == counts && y.Epoch-x.Epoch == 1:
		return y, x, api.OK
	case k == counts && (l != counts || x.Epoch > y.Epoch):
		return x, root.Root{}, api.OK
	case l == counts:
		return y, root.Root{}, api.OK
	case k == harmed || l == harmed || k == torn && l == torn:
		return root.Root{}, root.Root{}, api.ErrHarm
	}
	return root.Root{}, root.Root{}, api.ErrNone
}

// checkTorn asks that a block, written over another one or zeros and torn
// anywhere, is the old one, the new one, or torn.
func checkTorn(t *testing.T, under, over string) {
	t.Helper()
	for at := range api.Sector + 1 {
		s := over[:at] + under[at:]
		x, e := root.Decode(s)
		switch {
		case s == under || s == over:
			y, f := root.Decode(s)
			if x != y || e != f || e != api.OK && e != api.ErrNone {
				t.Fatalf("torn at %d, %q is told as %v, %d", at, s, x, e)
			}
		case x != (root.Root{}) || e != api.ErrForm:
			t.Fatalf("torn at %d, %q is told as %v, %d", at, s, x, e)
		}
	}
}

// anyRoot is a root that may be, its numbers near bounds more often.
func anyRoot(row *rand.Rand) root.Root {
	pick := func(low, high int) int {
		switch n := row.Intn(3); {
		case high-low < 4 || n == 0:
			return low + row.Intn(high-low+1)
		case n == 1:
			return low + row.Intn(3)
		}
		return high - row.Intn(3)
	}
	pages := pick(4, 512)
	epoch := pick(1, most)
	if row.Intn(2) == 0 {
		epoch = 1 + row.Intn(1<<row.Intn(40))
	}
	return r(epoch, pages, pick(2, pages-1), pick(0, 1<<31-1))
}

// 5.4: torn anywhere over zeros, and over blocks of other epochs.
func TestTornAnywhere(t *testing.T) {
	list := roots()
	row := rand.New(rand.NewSource(54))
	for range 60 {
		list = append(list, anyRoot(row))
	}
	for _, x := range list {
		checkTorn(t, zeros, block(x))
		for _, y := range list {
			if x.Epoch != y.Epoch {
				checkTorn(t, block(y), block(x))
			}
		}
	}
}

// 5.4: epochs that differ in one byte alone, each of the eight.
func TestTornWithinEpochs(t *testing.T) {
	base := 0x0102030405060708
	for place := range 8 {
		for _, by := range []int{1, 2, 3, -1} {
			other := base + by<<(8*place)
			checkTorn(t, block(r(base, 16, 2, 7)), block(r(other, 16, 2, 7)))
			checkTorn(t, block(r(other, 16, 2, 7)), block(r(base, 120, 60, 1<<30)))
		}
	}
}

// tearing is a disk with two roots that are out, and a third one, over the
// first one's block, that waits.
func tearing(t *testing.T, one, two, three root.Root) *disk.Disk {
	t.Helper()
	d := newDisk(t, 64)
	for _, x := range []root.Root{one, two} {
		if x != (root.Root{}) {
			do(t, "Store", root.Store(d, x))
			do(t, "Barrier", d.Barrier())
		}
	}
	do(t, "Store", root.Store(d, three))
	return d
}

// 5.4: a disk that fails while a block is written over another one's has the
// root ahead of it, or the new one, at each place where it may be torn.
func TestTornByAFailure(t *testing.T) {
	for _, first := range []int{1, 2, 255, 256, 65535, 1 << 40, most - 2} {
		one, two, three := r(first, 16, 2, 7), r(first+1, 16, 3, 8), r(first+2, 16, 4, 9)
		for at := range api.Sector + 1 {
			d := tearing(t, one, two, three)
			d.Fail(nil, 0, at)
			d.Start()
			x, y, e := root.Load(d)
			switch {
			case e == api.OK && x == two && y == one:
			case e == api.OK && x == two && y == (root.Root{}):
			case e == api.OK && x == three && y == two:
			default:
				t.Fatalf("torn at %d over %v: %v, %v, %d", at, one, x, y, e)
			}
		}
	}
}

// 5.4: a disk that fails while the first block of all is written has none, or
// it.
func TestFirstBlockTorn(t *testing.T) {
	for _, first := range []int{1, 2, 256, 65536, most} {
		one := r(first, 16, 2, 7)
		for at := range api.Sector + 1 {
			d := tearing(t, root.Root{}, root.Root{}, one)
			d.Fail([]bool{true}, 0, at)
			d.Start()
			x, y, e := root.Load(d)
			if e == api.OK && x == one && y == (root.Root{}) {
				continue
			}
			if e != api.ErrNone || x != (root.Root{}) || at == api.Sector {
				t.Fatalf("torn at %d over zeros: %v, %v, %d", at, x, y, e)
			}
		}
	}
}

// 5.4: a block of which one byte was changed, to any other one, doesn't
// count.
func TestByteChanged(t *testing.T) {
	for _, x := range roots() {
		whole := block(x)
		for place := range api.Sector {
			for b := range 256 {
				s := with(whole, place, string([]byte{byte(b)}))
				y, e := root.Decode(s)
				if s == whole {
					continue
				}
				if y != (root.Root{}) || e != api.ErrForm && e != api.ErrHarm {
					t.Fatalf("the block of %v with %d at %d: %v, %d", x, b, place, y, e)
				}
			}
		}
	}
}

// turned is a block of which those bits from a place on are turned that are 1
// in mask: by bytes, in each the lowest first; those past its end aren't.
func turned(s string, from int, mask uint32) string {
	b := []byte(s)
	for i := range 32 {
		if at := from + i; mask>>i&1 == 1 && at < 8*len(b) {
			b[at/8] ^= 1 << (at % 8)
		}
	}
	return string(b)
}

// 5.4: a block of which bits within 32 side by side were changed, at each
// place, doesn't count.
func TestBitsChanged(t *testing.T) {
	row := rand.New(rand.NewSource(55))
	masks := []uint32{1, 3, 1 | 1<<31, 1<<32 - 1, 0xff, 0xffff, 0xedb88321}
	for range 20 {
		masks = append(masks, row.Uint32()|1)
	}
	for _, x := range roots() {
		whole := block(x)
		for from := range 8 * api.Sector {
			for _, mask := range masks {
				s := turned(whole, from, mask)
				if y, e := root.Decode(s); y != (root.Root{}) || e != api.ErrForm && e != api.ErrHarm {
					t.Fatalf("the block of %v with %#x turned from %d on: %v, %d", x, mask, from, y, e)
				}
			}
		}
	}
}

// 5.4: with one that doesn't count, as it was changed, the other one is told.
func TestChangedBesideAnother(t *testing.T) {
	one, two := r(1, 16, 2, 7), r(2, 16, 3, 8)
	for place := range api.Sector {
		for bit := range 8 {
			mask := uint32(1) << bit
			checkNewest(t, "a newer one that was changed", turned(block(two), 8*place, mask), block(one), one, root.Root{}, api.OK)
			checkNewest(t, "an older one that was changed", block(two), turned(block(one), 8*place, mask), two, root.Root{}, api.OK)
		}
	}
}

// anySector is a sector that may be found on a disk.
func anySector(row *rand.Rand) string {
	x := anyRoot(row)
	if row.Intn(2) == 0 {
		x.Epoch = 1 + row.Intn(6)
	}
	s := block(x)
	switch row.Intn(8) {
	case 0:
		return zeros
	case 1:
		at := row.Intn(api.Sector)
		return s[:at] + block(anyRoot(row))[at:]
	case 2:
		return turned(s, row.Intn(8*api.Sector), row.Uint32())
	case 3:
		return resummed(x, 8+row.Intn(108), string([]byte{byte(row.Intn(256))}))
	}
	return s
}

// 5.1, 5.2: any two sectors are told as the chapter's words tell them.
func TestAnySectors(t *testing.T) {
	row := rand.New(rand.NewSource(51))
	for range 20000 {
		a, b := anySector(row), anySector(row)
		x, y, e := newest(a, b)
		checkNewest(t, fmt.Sprintf("%q and %q", a, b), a, b, x, y, e)
		want := []api.Errno{api.OK, api.ErrNone, api.ErrForm, api.ErrHarm}
		k, z := kind(a)
		if got, f := root.Decode(a); got != z || f != want[k] {
			t.Fatalf("Decode of %q: %v, %d, asked for %v, %d", a, got, f, z, want[k])
		}
	}
}

// asked is the error that Store answers by the chapter's words on a disk that
// has no fuse.
func asked(d *disk.Disk, x root.Root) api.Errno {
	switch {
	case !root.May(x) || d.Sectors() < 16 || d.Sectors() < 4*x.Pages:
		return api.ErrArg
	case d.Down():
		return api.ErrDown
	}
	return api.OK
}

// anyStore stores a root that may be, or may not, and asks what the disk has
// then.
func anyStore(t *testing.T, d *disk.Disk, row *rand.Rand, all []root.Root) {
	t.Helper()
	x := anyRoot(row)
	switch row.Intn(8) {
	case 0:
		x = strangers()[row.Intn(len(strangers()))]
	case 1, 2:
		x.Epoch = 1 + row.Intn(6)
	case 3, 4, 5:
		x = all[row.Intn(len(all))]
		x.Epoch = 1 + row.Intn(6)
	}
	want := asked(d, x)
	if want != api.OK {
		checkRefused(t, "a disk", d, x, want)
		return
	}
	before := lookAt(d)
	do(t, "Store", root.Store(d, x))
	after := lookAt(d)
	place := root.Place(x.Epoch)
	before.done++
	before.waiting = append(before.waiting, place)
	before.sectors[2*place+1] = block(x)
	if !after.equal(before) {
		t.Fatalf("Store of %v did more, or less, than write its block", x)
	}
}

// 5.2 to 5.4: any steps one behind the other on a disk: what is loaded is
// what the chapter's words tell of its two sectors.
func TestAnySteps(t *testing.T) {
	row := rand.New(rand.NewSource(52))
	for range 60 {
		d := newDisk(t, []int{1, 15, 16, 64, 480}[row.Intn(5)])
		fitting := []root.Root{r(1, 4, 2, 0), r(1, 16, 2, 7), r(1, 120, 60, 9)}
		for range 60 {
			switch row.Intn(6) {
			case 0:
				d.Barrier()
			case 1:
				d.Fail([]bool{row.Intn(2) == 0, row.Intn(2) == 0}, row.Intn(4)-1, row.Intn(140)-5)
			case 2:
				d.Start()
			default:
				anyStore(t, d, row, fitting)
			}
			checkAnyLoad(t, d)
		}
	}
}

func checkAnyLoad(t *testing.T, d *disk.Disk) {
	t.Helper()
	if d.Sectors() < 16 {
		checkLoad(t, "a small disk", d, root.Root{}, root.Root{}, api.ErrArg)
		return
	}
	a, e := d.Read(0)
	if e != api.OK {
		checkLoad(t, "a disk that is down", d, root.Root{}, root.Root{}, e)
		return
	}
	b, _ := d.Read(4)
	x, y, e := newest(a, b)
	checkLoad(t, "a disk", d, x, y, e)
}
