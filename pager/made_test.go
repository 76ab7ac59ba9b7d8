package pager_test

import (
	"encoding/binary"
	"testing"

	"hibernacle/bits"
	"hibernacle/disk"
	"hibernacle/root"
	"hibernacle/table"
)

// made is a state that is laid on a disk by hand: its directory tells that
// just these pages are used.
type made struct {
	root   root.Root
	leaves [4]int
	place  map[int]int
	used   []int
}

// sound is a state of 16 pages, with two leaves and three pages.
func sound() made {
	return made{
		root:   root.Root{Epoch: 3, Pages: 16, Dir: 5, Word: 77},
		leaves: [4]int{6, 0, 7, 0},
		place:  map[int]int{0: 8, 127: 9, 300: 15},
		used:   []int{5, 6, 7, 8, 9, 15},
	}
}

// plain is the state by the chapter's words.
func (m made) plain() plain {
	p := plain{epoch: m.root.Epoch, pages: m.root.Pages, word: m.root.Word, place: m.place, leaves: m.leaves, dir: m.root.Dir}
	p.data = map[int]string{}
	for l := range m.place {
		p.data[l] = full(l)
	}
	return p
}

// fill gives a disk's page its bytes, if there is such a page.
func fill(t *testing.T, d *disk.Disk, page int, data string) {
	t.Helper()
	for i := range 4 {
		if 4*page+i < d.Sectors() && page > 1 {
			do(t, "Write", d.Write(4*page+i, data[128*i:][:128]))
		}
	}
}

// leafBytes is the bytes of a leaf that tells where pages are, whatever that
// is.
func leafBytes(place map[int]int, i int) string {
	b := make([]byte, 512)
	for l, page := range place {
		if l/128 == i {
			binary.BigEndian.PutUint32(b[l%128*4:], uint32(page))
		}
	}
	return string(b)
}

// dirBytes is a directory's bytes, whatever it tells.
func (m made) dirBytes() string {
	b := make([]byte, 512)
	for i, page := range m.leaves {
		binary.BigEndian.PutUint32(b[4*i:], uint32(page))
	}
	set, _ := bits.New[table.Page](512)
	for _, page := range m.used {
		set.Put(table.Page(page))
	}
	copy(b[16:], set.Bytes())
	return string(b)
}

// lay brings the state out on a disk: where two of its parts lie on one page,
// the directory is the last one, and ahead of it the leaves.
func (m made) lay(t *testing.T, d *disk.Disk) {
	t.Helper()
	for l, page := range m.place {
		fill(t, d, page, full(l))
	}
	for i, page := range m.leaves {
		fill(t, d, page, leafBytes(m.place, i))
	}
	fill(t, d, m.root.Dir, m.dirBytes())
	m.block(t, d)
}

// block brings out the state's block alone.
func (m made) block(t *testing.T, d *disk.Disk) {
	t.Helper()
	b, e := root.Encode(m.root)
	do(t, "Encode", e)
	do(t, "Write", d.Write(root.Place(m.root.Epoch), b))
	do(t, "Barrier", d.Barrier())
}

// disk is a disk with the state alone.
func (m made) disk(t *testing.T, sectors int) *disk.Disk {
	t.Helper()
	d := newDisk(t, sectors)
	m.lay(t, d)
	return d
}

// fault is a disk whose newest block counts, but tells of no state.
type fault struct {
	name    string
	sectors int
	made    made
	// over is what lies on pages instead of the state's own bytes.
	over map[int]string
}

func (f fault) disk(t *testing.T) *disk.Disk {
	t.Helper()
	d := f.made.disk(t, f.sectors)
	for page, data := range f.over {
		fill(t, d, page, data)
	}
	do(t, "Barrier", d.Barrier())
	return d
}

// changed is the sound state with a change, on a disk of 20 pages.
func changed(name string, change func(m *made)) fault {
	f := fault{name: name, sectors: 80, made: sound()}
	change(&f.made)
	return f
}

// over is the sound state with other bytes on one of its pages.
func over(name string, page int, data string) fault {
	return fault{name, 80, sound(), map[int]string{page: data}}
}

// at is bytes with a number in four of them.
func at(data string, place int, n uint32) string {
	b := []byte(data)
	binary.BigEndian.PutUint32(b[place:], n)
	return string(b)
}

// faults are disks on which the newest block's state is none, each for
// another cause.
func faults() []fault {
	list := append(wrongPages(), wrongSets()...)
	// Of the 21st page the disk has three sectors.
	whole := changed("a page that isn't whole", func(m *made) { m.root.Pages = 21 })
	whole.sectors = 83
	return append(append(list, whole), wrongBytes()...)
}

// wrongPages are states that lie where none may, or twice on a page.
func wrongPages() []fault {
	return []fault{
		changed("more pages than the disk has", func(m *made) { m.root.Pages = 21 }),
		changed("all pages on a small disk", func(m *made) { m.root.Pages = 512 }),
		changed("data beyond its pages", func(m *made) { m.root.Pages = 15 }),
		changed("data just beyond its pages", func(m *made) { m.place[300], m.used[5] = 16, 16 }),
		changed("data beyond the disk", func(m *made) { m.place[300], m.used[5] = 20, 20 }),
		changed("data far beyond the disk", func(m *made) { m.place[300], m.used[5] = 511, 511 }),
		changed("a leaf beyond its pages", func(m *made) { m.leaves[2], m.used[2] = 16, 16 }),
		changed("a leaf beyond the disk", func(m *made) { m.leaves[2], m.used[2] = 20, 20 }),
		changed("a leaf far beyond the disk", func(m *made) { m.leaves[2], m.used[2] = 511, 511 }),
		changed("a leaf just beyond the disk", func(m *made) { m.root.Pages, m.leaves[2], m.used[2] = 20, 20, 20 }),
		changed("data just beyond the disk", func(m *made) { m.root.Pages, m.place[300], m.used[5] = 20, 20, 20 }),
		changed("two pages at one", func(m *made) { m.place[1] = 8 }),
		changed("two pages of two leaves at one", func(m *made) { m.place[300], m.used = 9, m.used[:5] }),
		changed("a page at the directory", func(m *made) { m.place[300], m.used = 5, m.used[:5] }),
		changed("a page at its leaf", func(m *made) { m.place[300], m.used = 7, m.used[:5] }),
		changed("a page at another leaf", func(m *made) { m.place[300], m.used = 6, m.used[:5] }),
		changed("a leaf at the directory", func(m *made) { m.leaves[1] = 5 }),
		changed("two leaves at one", func(m *made) { m.leaves[1] = 6 }),
		changed("two leaves that tell the same", func(m *made) {
			m.leaves, m.place, m.used = [4]int{6, 6, 0, 0}, map[int]int{0: 8, 128: 8}, []int{5, 6, 8}
		}),
	}
}

// wrongSets are states whose set has other pages than theirs.
func wrongSets() []fault {
	return []fault{
		changed("a set without the directory", func(m *made) { m.used = m.used[1:] }),
		changed("a set without a leaf", func(m *made) { m.used[1] = 5 }),
		changed("a set without data", func(m *made) { m.used = m.used[:5] }),
		changed("a set with one more", func(m *made) { m.used = append(m.used, 10) }),
		changed("a set with a block's page", func(m *made) { m.used = append(m.used, 0) }),
		changed("a set with the other block's page", func(m *made) { m.used = append(m.used, 1) }),
		changed("a set with one beyond its pages", func(m *made) { m.used = append(m.used, 16) }),
		changed("a set with one beyond the disk", func(m *made) { m.used = append(m.used, 511) }),
		changed("a set with another one instead", func(m *made) { m.used[5] = 14 }),
		changed("an empty set", func(m *made) { m.used = nil }),
		changed("an empty set and no leaves", func(m *made) { m.used, m.leaves = nil, [4]int{} }),
		changed("a leaf that isn't told", func(m *made) { m.leaves[2] = 0 }),
		changed("a leaf that tells nothing", func(m *made) { m.leaves[3], m.used = 11, append(m.used, 11) }),
		changed("a leaf that tells nothing any more", func(m *made) { delete(m.place, 300); m.used = m.used[:5] }),
	}
}

// wrongBytes are states of which a part's bytes are none.
func wrongBytes() []fault {
	dir, leaf := sound().dirBytes(), leafBytes(sound().place, 0)
	return []fault{
		over("a directory of zeros", 5, nothing),
		over("a directory that is a leaf", 5, leaf),
		over("a directory with bytes behind it", 5, dir[:511]+"\x01"),
		over("a directory with a byte behind its set", 5, dir[:80]+"\x01"+dir[81:]),
		over("a directory that tells the page 1", 5, at(dir, 4, 1)),
		over("a directory that tells the page 512", 5, at(dir, 4, 512)),
		over("a directory that tells 2^32 - 1", 5, at(dir, 12, 1<<32-1)),
		over("a leaf that tells the page 1", 6, at(leaf, 4, 1)),
		over("a leaf that tells the page 512", 6, at(leaf, 4, 512)),
		over("a leaf that tells 2^31", 6, at(leaf, 508, 1<<31)),
		over("a leaf that is a directory", 6, dir),
		over("a leaf of zeros", 7, nothing),
		over("a leaf that tells one more", 7, at(leafBytes(sound().place, 2), 0, 10)),
	}
}
