package pager

import (
	"maps"
	"slices"

	"hibernacle/api"
	"hibernacle/root"
	"hibernacle/table"
)

// write is what a commit writes at one of the disk's pages.
type write struct {
	page int
	data string
}

// Commit has all changes good.
func (s *Space) Commit(word int) api.Errno {
	if e := s.refusal(); e != api.OK {
		return e
	}
	// Any page stands for the directory's, till it is known that there are
	// enough of them.
	r := root.Root{Epoch: s.Epoch() + 1, Pages: s.Pages(), Dir: firstPage, Word: word}
	switch {
	case !root.May(r):
		return api.ErrRange
	case s.Need() > s.Free():
		return api.ErrFull
	}
	next, row := s.plan(r)
	if e := s.lay(row, next.root); e != api.OK {
		*s = Space{}
		return e
	}
	s.good, s.older = next, s.good.used
	s.settle()
	return api.OK
}

// Abort has all as it was committed.
func (s *Space) Abort() {
	if s.refusal() == api.OK {
		s.settle()
	}
}

// settle has nothing changed.
func (s *Space) settle() {
	s.kept, s.fresh, s.changed = s.good.table.Copy(), map[int]content{}, false
}

// plan is the state that a commit makes good, and what it writes for it.
func (s *Space) plan(r root.Root) (state, []write) {
	var row []write
	free := slices.Collect(s.free())
	take := func() int {
		page := free[0]
		free = free[1:]
		return page
	}
	gather := func(data string) int {
		page := take()
		row = append(row, write{page, data})
		return page
	}
	next := state{root: r, leaves: s.good.leaves, table: s.kept.Copy()}
	for _, l := range slices.Sorted(maps.Keys(s.fresh)) {
		next.table.Set(l, gather(s.fresh[l].data))
	}
	for i := range next.leaves {
		if next.table.Bare(i) {
			next.leaves[i] = none
		}
	}
	for _, i := range s.moved() {
		next.leaves[i] = gather(string(next.table.Leaf(i)))
	}
	// The directory tells its own page, too.
	next.root.Dir = take()
	next.used, _ = next.pages()
	dir, _ := table.Encode(table.Dir{Leaves: next.leaves, Used: next.used})
	return next, append(row, write{next.root.Dir, string(dir)})
}

// lay brings a state out, and its block only when all of it is out.
func (s *Space) lay(row []write, r root.Root) api.Errno {
	for _, w := range row {
		if e := writePage(s.disk, w.page, w.data); e != api.OK {
			return e
		}
	}
	if e := s.disk.Barrier(); e != api.OK {
		return e
	}
	if e := root.Store(s.disk, r); e != api.OK {
		return e
	}
	return s.disk.Barrier()
}
