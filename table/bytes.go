package table

import "hibernacle/api"

// pageBytes is how many bytes tell one of the disk's pages.
const pageBytes = 4

// whole asks that bytes are a page.
func whole(b []byte) api.Errno {
	switch {
	case len(b) < api.Page:
		return api.ErrEnd
	case len(b) > api.Page:
		return api.ErrLong
	}
	return api.OK
}

// lay is the bytes that tell the disk's pages.
func lay(pages []int) []byte {
	b := make([]byte, 0, len(pages)*pageBytes)
	for _, page := range pages {
		b = append(b, byte(page>>24), byte(page>>16), byte(page>>8), byte(page))
	}
	return b
}

// take fills a row with the disk's pages that bytes tell first, and tells
// whether each of them may be.
func take(pages []int, b []byte) bool {
	for i := range pages {
		page := 0
		for _, c := range b[i*pageBytes:][:pageBytes] {
			page = page<<8 | int(c)
		}
		if !may(page) {
			return false
		}
		pages[i] = page
	}
	return true
}

// may tells whether bytes may tell a page of the disk, or that there is none.
func may(page int) bool {
	return page == none || isPage(page)
}
