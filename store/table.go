package store

import "hibernacle/api"

const (
	headPage = 0
	// headName stands in each head, so that pages of another kind are told
	// from it.
	headName = "HOBJ"
	maxParts = 64
	perPart  = 128
	// maxNumber is the last number that a table has.
	maxNumber = maxParts * perPart
	// slots is how many slots a page with records may have.
	slots = 64
	// How many bytes tell a page, and a spot.
	pageBytes = 2
	spotBytes = 4
)

// nowhere is the spot of a number without a thing.
const nowhere spot = 0

// spot is where a record lies: one more than its page and its slot make.
type spot int

// part is a part of the table: its page, and what that page tells.
type part struct {
	page  int
	spots [perPart]spot
}

func spotOf(page, slot int) spot {
	return spot(page*slots+slot) + 1
}

func (at spot) page() int {
	return int(at-1) / slots
}

func (at spot) slot() int {
	return int(at-1) % slots
}

// placeOf is a number's part, and its place in that.
func placeOf(n int) (int, int) {
	return (n - 1) / perPart, (n - 1) % perPart
}

// numberAt is the number at a place of a part.
func numberAt(i, j int) int {
	return i*perPart + j + 1
}

// headText is the head of a table.
func headText(parts []part) string {
	b := append([]byte(headName), byte(len(parts)))
	for _, p := range parts {
		b = put(b, p.page, pageBytes)
	}
	return pageText(b)
}

// partsOf is the parts that a head tells, of which the pages alone are known,
// and whether it is a head.
func partsOf(head string) ([]part, bool) {
	n := int(head[len(headName)])
	if n > maxParts {
		return nil, false
	}
	parts := make([]part, n)
	for i, page := range pagesOf(head[len(headName)+1:], n) {
		parts[i].page = page
	}
	return parts, headText(parts) == head
}

// text is a part's page.
func (p part) text() string {
	var b []byte
	for _, at := range p.spots {
		b = put(b, int(at), spotBytes)
	}
	return pageText(b)
}

// spotsOf is what a part's page tells.
func spotsOf(text string) [perPart]spot {
	var spots [perPart]spot
	for j := range spots {
		spots[j] = spot(take(text[j*spotBytes:][:spotBytes]))
	}
	return spots
}

// pageText is a page's bytes: what it has, and zeros.
func pageText(b []byte) string {
	page := make([]byte, api.Page)
	copy(page, b)
	return string(page)
}

// pagesOf is the n pages that bytes tell first.
func pagesOf(b string, n int) []int {
	pages := make([]int, n)
	for i := range pages {
		pages[i] = take(b[i*pageBytes:][:pageBytes])
	}
	return pages
}

// put has a number behind bytes, in so many of them, the highest first.
func put(b []byte, n, size int) []byte {
	for shift := 8 * (size - 1); shift >= 0; shift -= 8 {
		b = append(b, byte(n>>shift))
	}
	return b
}

// take is the number that bytes are, the highest first.
func take(b string) int {
	n := 0
	for i := range len(b) {
		n = n<<8 | int(b[i])
	}
	return n
}
