package root

import (
	"hibernacle/api"
	"hibernacle/crc"
)

// name stands in each block, so that bytes of another kind are told from it.
const name = "HIBR"

// What is where in a block.
const (
	epochSize = 8
	fieldSize = 4
	namePlace = epochSize
	// firstField is where the fields begin that stand one behind the other.
	firstField = namePlace + len(name)
	fields     = 3
	// summed is how many bytes stand ahead of their sum.
	summed    = 116
	lastEpoch = api.Sector - epochSize
)

// Encode is a root's block.
func Encode(r Root) (string, api.Errno) {
	if !May(r) {
		return "", api.ErrArg
	}
	b := make([]byte, summed)
	put(b[:epochSize], r.Epoch)
	copy(b[namePlace:], name)
	row := [fields]int{r.Pages, r.Dir, r.Word}
	for i := range fields {
		put(b[fieldPlace(i):][:fieldSize], row[i])
	}
	// The epoch at the end is the one at the beginning where all of the block
	// was written.
	b = append(crc.Seal(b), b[:epochSize]...)
	return string(b), api.OK
}

// Decode is the root of a block.
func Decode(s string) (Root, api.Errno) {
	switch {
	case len(s) != api.Sector:
		return Root{}, api.ErrArg
	case s == string(make([]byte, api.Sector)):
		return Root{}, api.ErrNone
	case s[:epochSize] != s[lastEpoch:]:
		return Root{}, api.ErrForm
	}
	r := told(s)
	// What is no root's block byte by byte is harmed, wherever it differs.
	if b, e := Encode(r); e != api.OK || b != s {
		return Root{}, api.ErrHarm
	}
	return r, api.OK
}

// told is what the fields of a sector tell, which may be no root.
func told(s string) Root {
	var row [fields]int
	for i := range fields {
		row[i] = take(s[fieldPlace(i):][:fieldSize])
	}
	return Root{Epoch: take(s[:epochSize]), Pages: row[0], Dir: row[1], Word: row[2]}
}

func fieldPlace(i int) int {
	return firstField + i*fieldSize
}

// put lays a number into bytes, the highest first.
func put(b []byte, n int) {
	for i := range len(b) {
		b[len(b)-1-i] = byte(n >> (8 * i))
	}
}

// take is the number of bytes, the highest first.
func take(s string) int {
	n := 0
	for i := range len(s) {
		n = n<<8 | int(s[i])
	}
	return n
}
