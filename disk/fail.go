package disk

import (
	"slices"

	"hibernacle/api"
)

// Fuse lays a fuse.
func (d *Disk) Fuse(n int) {
	if d != nil {
		d.fuse = max(n, noFuse)
	}
}

// burn takes one write or barrier off the fuse, or has the disk go down.
func (d *Disk) burn() api.Errno {
	if d.fuse == 0 {
		d.down = true
		return api.ErrDown
	}
	if d.fuse != noFuse {
		d.fuse--
	}
	d.done++
	return api.OK
}

// Fail loses the power.
func (d *Disk) Fail(keep []bool, torn, at int) {
	if d == nil {
		return
	}
	for place := range len(d.waits) {
		switch {
		case place == torn:
			d.bringOut(place, min(max(at, 0), api.Sector))
		case place < len(keep) && keep[place]:
			d.bringOut(place, api.Sector)
		}
	}
	d.forget()
	d.fuse = noFuse
	d.down = true
}

// Start has a disk up.
func (d *Disk) Start() {
	if d == nil || !d.down {
		return
	}
	d.forget()
	d.fuse = noFuse
	d.down = false
}

// Down tells whether a disk is down.
func (d *Disk) Down() bool {
	return d == nil || d.down
}

// bringOut brings out so many first bytes of a write that waits, on what its
// sector has by then.
func (d *Disk) bringOut(place, size int) {
	w := d.waits[place]
	d.out[w.sector] = slices.Concat(w.data[:size], d.out[w.sector][size:])
}

// forget has nothing wait, so that what is read is what is out.
func (d *Disk) forget() {
	d.waits = nil
	copy(d.last, d.out)
}
