package pager_test

import (
	"bytes"
	"encoding/binary"
	"fmt"
	"maps"
	"math"
	"slices"
	"strings"
	"testing"

	"hibernacle/api"
	"hibernacle/disk"
	"hibernacle/pager"
	"hibernacle/root"
	"hibernacle/table"
)

// most is the greatest epoch.
const most = 1 << 62

// nothing is a page of zeros.
var nothing = string(make([]byte, 512))

// full is a page's bytes that differ from sector to sector.
func full(n int) string {
	b := make([]byte, 512)
	for i := range b {
		b[i] = byte(n + n/256 + i/128*17)
	}
	return string(b)
}

// strange is numbers of logical pages that there never are.
func strange() []int {
	return []int{math.MinInt, -512, -1, 512, 513, 1 << 32, math.MaxInt}
}

func newDisk(t *testing.T, sectors int) *disk.Disk {
	t.Helper()
	d, e := disk.New(sectors)
	if e != api.OK {
		t.Fatalf("New(%d): %d", sectors, e)
	}
	return d
}

// do asks that something is done.
func do(t *testing.T, name string, e api.Errno) {
	t.Helper()
	if e != api.OK {
		t.Fatalf("%s: %d", name, e)
	}
}

func format(t *testing.T, d *disk.Disk) *pager.Space {
	t.Helper()
	s, e := pager.Format(d)
	if e != api.OK || s == nil {
		t.Fatalf("Format: %v, %d", s, e)
	}
	return s
}

func open(t *testing.T, d *disk.Disk) *pager.Space {
	t.Helper()
	s, e := pager.Open(d)
	if e != api.OK || s == nil {
		t.Fatalf("Open: %v, %d", s, e)
	}
	return s
}

// alloc has so many pages more.
func alloc(t *testing.T, s *pager.Space, n int) {
	t.Helper()
	for range n {
		_, e := s.Alloc()
		do(t, "Alloc", e)
	}
}

// look is all that is told of a disk.
type look struct {
	down    bool
	done    int
	waiting []int
	sectors []string
}

func lookAt(d *disk.Disk) look {
	l := look{down: d.Down(), done: d.Done(), waiting: d.Waiting()}
	for i := range d.Sectors() {
		s, _ := d.Read(i)
		l.sectors = append(l.sectors, d.Out(i), s)
	}
	return l
}

func (l look) equal(m look) bool {
	return l.down == m.down && l.done == m.done && slices.Equal(l.waiting, m.waiting) && slices.Equal(l.sectors, m.sectors)
}

// told is all that a space tells, as one text.
func told(s *pager.Space) string {
	var b strings.Builder
	held := s.Held()
	fmt.Fprintln(&b, s.Word(), s.Epoch(), s.Pages(), s.Need(), s.Free(), s.Changed(), s.Len(), held == nil, held.Size(),
		slices.Collect(held.All()), slices.Collect(s.All()))
	for l := -1; l <= 512; l++ {
		data, e := s.Read(l)
		if e != api.ErrNone || data != "" {
			fmt.Fprintf(&b, "%d %d %q\n", l, e, data)
		}
	}
	return b.String()
}

// told is all that a space would tell by the chapter's words.
func (m *model) told(down bool) string {
	var b strings.Builder
	if m.gone {
		fmt.Fprintln(&b, 0, 0, 0, 0, 0, false, 0, true, 0, []int(nil), []int(nil))
		for l := -1; l <= 512; l++ {
			fmt.Fprintf(&b, "%d %d %q\n", l, api.ErrDown, "")
		}
		return b.String()
	}
	held := slices.Sorted(maps.Keys(m.held()))
	fmt.Fprintln(&b, m.good.word, m.good.epoch, m.good.pages, m.need(), len(m.free()), m.changed, len(m.data), false, 512,
		held, m.logical())
	for _, l := range m.logical() {
		if down && !m.touched[l] {
			fmt.Fprintf(&b, "%d %d %q\n", l, api.ErrDown, "")
			continue
		}
		fmt.Fprintf(&b, "%d %d %q\n", l, api.OK, m.data[l])
	}
	return b.String()
}

// check asks that a space tells what the model tells.
func check(t *testing.T, name string, s *pager.Space, m *model) {
	t.Helper()
	if got, want := told(s), m.told(false); got != want {
		t.Fatalf("%s: told\n%.600s\nasked for\n%.600s", name, got, want)
	}
}

// pageAt is what is out of one of a disk's pages.
func pageAt(d *disk.Disk, page int) string {
	return d.Out(4*page) + d.Out(4*page+1) + d.Out(4*page+2) + d.Out(4*page+3)
}

// checkDisk asks that a state is out on a disk, byte by byte: each page of
// it, its leaves, its directory and its block.
func checkDisk(t *testing.T, name string, d *disk.Disk, p plain) {
	t.Helper()
	var leaves [4][]byte
	for i := range leaves {
		leaves[i] = make([]byte, 512)
	}
	for l, page := range p.place {
		binary.BigEndian.PutUint32(leaves[l/128][l%128*4:], uint32(page))
		if got := pageAt(d, page); got != p.data[l] {
			t.Fatalf("%s: the page %d lies at %d as %.40q, asked for %.40q", name, l, page, got, p.data[l])
		}
	}
	dir := make([]byte, 512)
	for i, page := range p.leaves {
		binary.BigEndian.PutUint32(dir[4*i:], uint32(page))
		if page != 0 && pageAt(d, page) != string(leaves[i]) {
			t.Fatalf("%s: the leaf %d lies at %d as %q, asked for %q", name, i, page, pageAt(d, page), leaves[i])
		}
		if page == 0 && !bytes.Equal(leaves[i], make([]byte, 512)) {
			t.Fatalf("%s: the leaf %d tells something, and lies nowhere", name, i)
		}
	}
	for page := range p.used() {
		dir[16+page/8] |= 1 << (page % 8)
	}
	if got := pageAt(d, p.dir); got != string(dir) {
		t.Fatalf("%s: the directory lies at %d as %q, asked for %q", name, p.dir, got, dir)
	}
	r := root.Root{Epoch: p.epoch, Pages: p.pages, Dir: p.dir, Word: p.word}
	block, _ := root.Encode(r)
	if got := d.Out(root.Place(p.epoch)); got != block {
		t.Fatalf("%s: the block is %q, asked for %q", name, got, block)
	}
}

// The chapter's example.
func TestExample(t *testing.T) {
	s := format(t, newDisk(t, 64))
	if s.Pages() != 16 || s.Held().Count() != 1 || s.Free() != 13 {
		t.Errorf("behind Format: %d pages, %d held, %d free", s.Pages(), s.Held().Count(), s.Free())
	}
}

// 8.4: of a nil space there is nothing, and each call is refused, whatever it
// is asked.
func TestNilSpace(t *testing.T) {
	var s *pager.Space
	for _, l := range append(strange(), 0, 1, 511) {
		if data, e := s.Read(l); data != "" || e != api.ErrArg {
			t.Errorf("Read(%d): %q, %d", l, data, e)
		}
		for _, data := range []string{"", nothing, nothing + "."} {
			if e := s.Write(l, data); e != api.ErrArg {
				t.Errorf("Write(%d) of %d bytes: %d", l, len(data), e)
			}
		}
		if e := s.Drop(l); e != api.ErrArg {
			t.Errorf("Drop(%d): %d", l, e)
		}
		if e := s.Commit(l); e != api.ErrArg {
			t.Errorf("Commit(%d): %d", l, e)
		}
	}
	if l, e := s.Alloc(); l != 0 || e != api.ErrArg {
		t.Errorf("Alloc: %d, %d", l, e)
	}
	s.Abort()
	checkEmpty(t, "a nil space", s)
}

// checkEmpty asks that a space has nothing.
func checkEmpty(t *testing.T, name string, s *pager.Space) {
	t.Helper()
	if n := []int{s.Len(), s.Word(), s.Epoch(), s.Pages(), s.Need(), s.Free()}; !slices.Equal(n, make([]int, 6)) {
		t.Errorf("%s has %v", name, n)
	}
	if s.Held() != nil || s.Changed() {
		t.Errorf("%s: Held %v, Changed %v", name, s.Held(), s.Changed())
	}
	for l := range s.All() {
		t.Errorf("%s has the page %d", name, l)
	}
}

// 8.4: what Held told may be changed without the space, and each answer is
// one by itself.
func TestHeldIsNew(t *testing.T) {
	d := newDisk(t, 64)
	s := format(t, d)
	alloc(t, s, 2)
	do(t, "Commit", s.Commit(1))
	was := told(s)
	h, other := s.Held(), s.Held()
	for page := range 512 {
		if !h.Drop(table.Page(page)) {
			h.Put(table.Page(page))
		}
	}
	if told(s) != was || !other.Same(s.Held()) {
		t.Errorf("what Held told was changed: %s", told(s))
	}
	h = s.Held()
	do(t, "Commit", s.Commit(2))
	if !h.Same(other) || s.Held().Same(h) {
		t.Errorf("Held told %v, and behind a commit tells %v", slices.Collect(h.All()), slices.Collect(s.Held().All()))
	}
}

// 8.4: how many pages a commit needs, by hand.
func TestNeed(t *testing.T) {
	s := format(t, newDisk(t, 2048))
	need := func(name string, want int) {
		t.Helper()
		if got := s.Need(); got != want {
			t.Errorf("%s: Need %d, asked for %d", name, got, want)
		}
	}
	need("nothing changed", 1)
	alloc(t, s, 1)
	need("a page came", 3)
	do(t, "Write", s.Write(0, full(1)))
	do(t, "Write", s.Write(0, full(2)))
	need("it was written twice", 3)
	do(t, "Drop", s.Drop(0))
	need("it was dropped again", 1)
	alloc(t, s, 128)
	need("a leaf is full", 130)
	alloc(t, s, 1)
	need("a page of the next leaf came", 132)
	do(t, "Commit", s.Commit(0))
	need("all is committed", 1)
	do(t, "Write", s.Write(5, full(5)))
	need("a page was written", 3)
	do(t, "Write", s.Write(128, full(5)))
	need("a page of another leaf was written", 5)
	do(t, "Drop", s.Drop(128))
	need("the leaf tells nothing any more", 3)
	alloc(t, s, 1)
	need("its page came again", 5)
	s.Abort()
	need("all is as it was", 1)
	do(t, "Drop", s.Drop(7))
	need("a page was dropped", 2)
	do(t, "Write", s.Write(8, full(8)))
	need("another one of its leaf was written", 3)
	do(t, "Drop", s.Drop(8))
	need("this one was dropped, too", 2)
	s.Abort()
	read, _ := s.Read(3)
	do(t, "Write", s.Write(3, read))
	need("a page was written as it was", 3)
}

// 8.4: Changed tells whether something was done, and not whether something is
// another one.
func TestChanged(t *testing.T) {
	d := newDisk(t, 256)
	s := format(t, d)
	changed := func(name string, want bool) {
		t.Helper()
		if got := s.Changed(); got != want {
			t.Errorf("%s: Changed %v", name, got)
		}
	}
	changed("formatted", false)
	s.Write(0, full(1))
	s.Drop(0)
	s.Read(0)
	changed("all refused", false)
	alloc(t, s, 1)
	changed("a page came", true)
	do(t, "Drop", s.Drop(0))
	changed("it was dropped", true)
	s.Commit(-1)
	changed("a commit was refused", true)
	do(t, "Commit", s.Commit(0))
	changed("committed", false)
	alloc(t, s, 1)
	s.Abort()
	changed("as it was", false)
	alloc(t, s, 1)
	do(t, "Commit", s.Commit(0))
	s.Write(0, "short")
	changed("a write was refused", false)
	do(t, "Write", s.Write(0, nothing))
	changed("a page was written as it was", true)
	s = open(t, d)
	changed("opened", false)
	do(t, "Drop", s.Drop(0))
	changed("a page was dropped", true)
	s.Abort()
	do(t, "Commit", s.Commit(9))
	changed("committed as it was", false)
}
