package pager

import (
	"hibernacle/api"
	"hibernacle/bits"
	"hibernacle/disk"
	"hibernacle/root"
	"hibernacle/table"
)

// firstPage is the first page of the disk that a state may lie on: the ones
// ahead of it have the blocks.
const firstPage = 2

// state is what a block tells of: where its parts are, and all of the pages
// that they lie on.
type state struct {
	root   root.Root
	leaves [leaves]int
	table  *table.Table
	used   *bits.Set[table.Page]
}

// load is the state of a block's root.
func load(d *disk.Disk, r root.Root) (state, api.Errno) {
	// The root of no block is no root.
	if !root.May(r) || r.Pages > pagesOf(d) {
		return state{}, api.ErrHarm
	}
	b, e := readPage(d, r.Dir)
	if e != api.OK {
		return state{}, e
	}
	dir, e := table.Decode([]byte(b))
	if e != api.OK {
		return state{}, api.ErrHarm
	}
	s := state{root: r, leaves: dir.Leaves, table: table.New()}
	for i := range s.leaves {
		if e := s.loadLeaf(d, i); e != api.OK {
			return state{}, e
		}
	}
	apart := false
	if s.used, apart = s.pages(); !apart || !s.used.Same(dir.Used) {
		return state{}, api.ErrHarm
	}
	return s, api.OK
}

// usedBy is the pages of the state of a block's root, if it is one.
func usedBy(d *disk.Disk, r root.Root) *bits.Set[table.Page] {
	s, _ := load(d, r)
	return s.used
}

// loadLeaf has the table tell what a leaf's page tells, where it has one.
func (s *state) loadLeaf(d *disk.Disk, i int) api.Errno {
	page := s.leaves[i]
	switch {
	case page == none:
		return api.OK
	case page >= s.root.Pages:
		return api.ErrHarm
	}
	b, e := readPage(d, page)
	if e != api.OK {
		return e
	}
	// A leaf that tells nothing has no page in any state.
	if s.table.Load(i, []byte(b)) != api.OK || s.table.Bare(i) {
		return api.ErrHarm
	}
	return api.OK
}

// pages is those that a state lies on, and whether each of them is one of the
// space's, and stands for one thing alone.
func (s *state) pages() (*bits.Set[table.Page], bool) {
	used, apart := noPages(), true
	claim := func(page int) {
		if page >= s.root.Pages || !used.Put(table.Page(page)) {
			apart = false
		}
	}
	claim(s.root.Dir)
	for _, page := range s.leaves {
		if page != none {
			claim(page)
		}
	}
	for _, page := range s.table.All() {
		claim(page)
	}
	return used, apart
}

// noPages is a set for pages of the disk.
func noPages() *bits.Set[table.Page] {
	set, _ := bits.New[table.Page](api.MaxPages)
	return set
}
