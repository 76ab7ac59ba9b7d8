package pager

import (
	"slices"

	"hibernacle/api"
	"hibernacle/table"
)

const (
	leaves  = len(table.Dir{}.Leaves)
	perLeaf = api.MaxPages / leaves
	// none stands for a leaf's page where the leaf tells nothing.
	none = 0
)

// moved is the leaves that a commit writes: they aren't the same any more,
// and tell something.
func (s *Space) moved() []int {
	var row []int
	differ := s.kept.Changed(s.good.table)
	for i := range leaves {
		if s.hasFresh(i) || slices.Contains(differ, i) && !s.kept.Bare(i) {
			row = append(row, i)
		}
	}
	return row
}

// hasFresh tells whether a leaf will tell a new place of some page: a fresh
// one never comes to lie where it lay, as that place is held.
func (s *Space) hasFresh(i int) bool {
	for l := range s.fresh {
		if l/perLeaf == i {
			return true
		}
	}
	return false
}
