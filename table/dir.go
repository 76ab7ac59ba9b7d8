package table

import (
	"hibernacle/api"
	"hibernacle/bits"
)

const (
	// A directory's bytes are its leaves' pages, its set, and zeros.
	setAt  = leaves * pageBytes
	setEnd = setAt + api.MaxPages/8
)

// Page is a page of the disk.
type Page int

// Dir tells where leaves are, and which pages are used.
type Dir struct {
	Leaves [leaves]int
	Used   *bits.Set[Page]
}

// Encode is a directory's bytes.
func Encode(d Dir) ([]byte, api.Errno) {
	if d.Used.Size() != api.MaxPages {
		return nil, api.ErrArg
	}
	for _, page := range d.Leaves {
		if !may(page) {
			return nil, api.ErrArg
		}
	}
	b := make([]byte, api.Page)
	copy(b, lay(d.Leaves[:]))
	copy(b[setAt:], d.Used.Bytes())
	return b, api.OK
}

// Decode is the directory of bytes.
func Decode(b []byte) (Dir, api.Errno) {
	if e := whole(b); e != api.OK {
		return Dir{}, e
	}
	var d Dir
	if !take(d.Leaves[:], b) || !zeros(b[setEnd:]) {
		return Dir{}, api.ErrForm
	}
	used, e := bits.Of[Page](api.MaxPages, b[setAt:setEnd])
	if e != api.OK {
		return Dir{}, api.ErrForm
	}
	d.Used = used
	return d, api.OK
}

// zeros tells whether bytes are all 0.
func zeros(b []byte) bool {
	for _, c := range b {
		if c != 0 {
			return false
		}
	}
	return true
}
