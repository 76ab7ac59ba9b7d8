package pager

import (
	"hibernacle/api"
	"hibernacle/disk"
	"hibernacle/root"
	"hibernacle/table"
)

// Format has a space without pages on a disk.
func Format(d *disk.Disk) (*Space, api.Errno) {
	newest, older, e := root.Load(d)
	if e != api.OK && e != api.ErrNone && e != api.ErrHarm {
		return nil, e
	}
	// A space is made that has nothing of what the blocks tell, but holds it;
	// its first commit comes behind them.
	s := &Space{disk: d, older: usedBy(d, older)}
	s.good = state{
		root:  root.Root{Epoch: newest.Epoch, Pages: pagesOf(d)},
		table: table.New(),
		used:  usedBy(d, newest),
	}
	s.settle()
	if e := s.Commit(0); e != api.OK {
		return nil, e
	}
	return s, api.OK
}

// Open is the space on a disk.
func Open(d *disk.Disk) (*Space, api.Errno) {
	newest, older, e := root.Load(d)
	if e != api.OK {
		return nil, e
	}
	good, e := load(d, newest)
	if e != api.OK {
		return nil, e
	}
	s := &Space{disk: d, good: good, older: usedBy(d, older)}
	s.settle()
	return s, api.OK
}
