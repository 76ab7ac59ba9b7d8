package table

import "hibernacle/api"

// Leaf is a leaf's bytes.
func (t *Table) Leaf(i int) []byte {
	if !t.hasLeaf(i) {
		return nil
	}
	return lay(t.leaves[i][:])
}

// Load has a leaf tell what bytes tell.
func (t *Table) Load(i int, b []byte) api.Errno {
	switch {
	case t == nil:
		return api.ErrArg
	case !t.hasLeaf(i):
		return api.ErrRange
	}
	if e := whole(b); e != api.OK {
		return e
	}
	// The leaf of the table stays as it is till all of the bytes are known to
	// be sound.
	var fresh leaf
	if !take(fresh[:], b) {
		return api.ErrForm
	}
	t.leaves[i] = fresh
	return api.OK
}

// Bare tells whether a leaf tells nothing.
func (t *Table) Bare(i int) bool {
	if !t.hasLeaf(i) {
		return t != nil
	}
	return t.leaves[i] == leaf{}
}

// Changed is the leaves that differ.
func (t *Table) Changed(o *Table) []int {
	if t == nil {
		return nil
	}
	if o == nil {
		o = New()
	}
	var differ []int
	for i := range t.leaves {
		if t.leaves[i] != o.leaves[i] {
			differ = append(differ, i)
		}
	}
	return differ
}

// Copy is a table by itself.
func (t *Table) Copy() *Table {
	if t == nil {
		return nil
	}
	return &Table{t.leaves}
}

// hasLeaf tells whether a table has a leaf.
func (t *Table) hasLeaf(i int) bool {
	return t != nil && 0 <= i && i < leaves
}
