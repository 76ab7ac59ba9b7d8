package pager

import (
	"hibernacle/api"
	"hibernacle/disk"
)

// pagesOf is how many whole pages a disk has.
func pagesOf(d *disk.Disk) int {
	return min(d.Sectors()/api.PerPage, api.MaxPages)
}

// readPage is the bytes of one of a disk's pages.
func readPage(d *disk.Disk, page int) (string, api.Errno) {
	data := ""
	for i := range api.PerPage {
		sector, e := d.Read(page*api.PerPage + i)
		if e != api.OK {
			return "", e
		}
		data += sector
	}
	return data, api.OK
}

// writePage gives one of a disk's pages its bytes.
func writePage(d *disk.Disk, page int, data string) api.Errno {
	for i := range api.PerPage {
		sector := data[i*api.Sector:][:api.Sector]
		if e := d.Write(page*api.PerPage+i, sector); e != api.OK {
			return e
		}
	}
	return api.OK
}
