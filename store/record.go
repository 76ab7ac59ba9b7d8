package store

import (
	"strings"

	"hibernacle/api"
)

const (
	maxThing = 16384
	// maxShort is how many bytes a thing may have that lies in its record.
	maxShort = 479
	// A record's first byte tells whether the thing's bytes follow, or how
	// many there are and which pages have them.
	short      = 0
	long       = 1
	countBytes = 4
	longHead   = 1 + countBytes
)

// record is what a thing's record tells: its bytes, or how many they are and
// which pages have them.
type record struct {
	data  string
	size  int
	pages []int
}

// pagesFor is how many pages so many bytes of a thing need beside its record.
func pagesFor(size int) int {
	if size <= maxShort {
		return 0
	}
	return (size + api.Page - 1) / api.Page
}

// recordSize is how long the record of a thing of so many bytes is.
func recordSize(size int) int {
	if n := pagesFor(size); n > 0 {
		return longHead + n*pageBytes
	}
	return 1 + size
}

// recordText is the record of a thing, whose bytes are in pages if it needs
// some.
func recordText(data string, pages []int) string {
	if len(pages) == 0 {
		return string([]byte{short}) + data
	}
	b := put([]byte{long}, len(data), countBytes)
	for _, page := range pages {
		b = put(b, page, pageBytes)
	}
	return string(b)
}

// recordOf is what a record's bytes tell, and whether they are one's.
func recordOf(b string) (record, bool) {
	if b == "" {
		return record{}, false
	}
	switch b[0] {
	case short:
		return record{data: b[1:], size: len(b) - 1}, true
	case long:
		return longOf(b)
	}
	return record{}, false
}

// longOf is what the record of a long thing tells.
func longOf(b string) (record, bool) {
	if len(b) < longHead {
		return record{}, false
	}
	size := take(b[1:longHead])
	if size <= maxShort || size > maxThing || len(b) != recordSize(size) {
		return record{}, false
	}
	return record{size: size, pages: pagesOf(b[longHead:], pagesFor(size))}, true
}

// chunks is the bytes of a long thing as its pages have them.
func chunks(data string) []string {
	var list []string
	for len(data) > api.Page {
		list = append(list, data[:api.Page])
		data = data[api.Page:]
	}
	return append(list, pageText([]byte(data)))
}

// joined is the first bytes of pages' texts, and whether zeros are behind
// them.
func joined(texts []string, size int) (string, bool) {
	all := strings.Join(texts, "")
	return all[:size], strings.Trim(all[size:], "\x00") == ""
}
