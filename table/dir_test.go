package table_test

import (
	"bytes"
	"testing"

	"hibernacle/api"
	"hibernacle/bits"
	"hibernacle/table"
)

// used is a set of a size that has what is told so.
func used(t *testing.T, n int, is func(page int) bool) *bits.Set[table.Page] {
	t.Helper()
	s, e := bits.New[table.Page](n)
	if e != api.OK {
		t.Fatalf("a set of the size %d: %d", n, e)
	}
	for page := range n {
		if is(page) {
			s.Put(table.Page(page))
		}
	}
	return s
}

// sets are sets of the size 512 that are empty, full, and between.
func sets(t *testing.T) []*bits.Set[table.Page] {
	t.Helper()
	list := []*bits.Set[table.Page]{used(t, 512, func(int) bool { return false }), used(t, 512, func(int) bool { return true })}
	for _, at := range []int{0, 1, 2, 7, 8, 255, 256, 504, 511} {
		list = append(list, used(t, 512, func(page int) bool { return page == at }),
			used(t, 512, func(page int) bool { return page != at }))
	}
	return append(list, used(t, 512, func(page int) bool { return page%3 == 1 }))
}

// places are leaves' pages that may be, in all four places.
func places() [][4]int {
	list := [][4]int{{}, {2, 3, 4, 5}, {511, 510, 257, 256}, {7, 7, 7, 7}, {0, 255, 0, 2}}
	for at := range 4 {
		for _, page := range []int{2, 3, 255, 256, 511} {
			var one [4]int
			one[at] = page
			list = append(list, one)
		}
	}
	return list
}

// dirBytes is a directory's bytes by the chapter's words.
func dirBytes(leaves [4]int, s *bits.Set[table.Page]) []byte {
	b := append(pagesAs(leaves[:]), s.Bytes()...)
	return append(b, make([]byte, 512-len(b))...)
}

func refusedEncode(t *testing.T, d table.Dir) {
	t.Helper()
	if b, e := table.Encode(d); len(b) != 0 || e != api.ErrArg {
		t.Fatalf("Encode of %v and a set of the size %d: %d bytes, %d", d.Leaves, d.Used.Size(), len(b), e)
	}
}

func refusedDecode(t *testing.T, b []byte, want api.Errno) {
	t.Helper()
	if d, e := table.Decode(b); d != (table.Dir{}) || e != want {
		t.Fatalf("Decode of %d bytes %v: %v, %d, not %d", len(b), b, d, e, want)
	}
}

// 7.3: Encode and Decode of directories that may be.
func TestEncodeAndDecode(t *testing.T) {
	for _, s := range sets(t) {
		for _, leaves := range places() {
			b, e := table.Encode(table.Dir{Leaves: leaves, Used: s})
			if want := dirBytes(leaves, s); e != api.OK || !bytes.Equal(b, want) {
				t.Fatalf("Encode of %v: %v, %d, not %v", leaves, b, e, want)
			}
			d, e := table.Decode(b)
			if e != api.OK || d.Leaves != leaves || !d.Used.Same(s) {
				t.Fatalf("Decode of what Encode told of %v: %v, %d", leaves, d, e)
			}
		}
	}
}

// 7.3: Encode of a leaf's page that may not be, in each place, whatever the
// set is.
func TestEncodeOfPages(t *testing.T) {
	s := used(t, 512, func(page int) bool { return page%5 == 0 })
	for at := range 4 {
		for _, page := range pages() {
			leaves := [4]int{8, 9, 0, 511}
			leaves[at] = page
			if page == 0 || page >= 2 && page <= 511 {
				if b, e := table.Encode(table.Dir{Leaves: leaves, Used: s}); e != api.OK || !bytes.Equal(b, dirBytes(leaves, s)) {
					t.Fatalf("Encode of %v: %v, %d", leaves, b, e)
				}
				continue
			}
			refusedEncode(t, table.Dir{Leaves: leaves, Used: s})
			refusedEncode(t, table.Dir{Leaves: leaves})
			refusedEncode(t, table.Dir{Leaves: [4]int{page, page, page, page}, Used: s})
		}
	}
}

// 7.3: Encode of a set that is nil, or of another size.
func TestEncodeOfSets(t *testing.T) {
	for _, leaves := range places() {
		refusedEncode(t, table.Dir{Leaves: leaves})
		for _, n := range []int{0, 1, 8, 256, 504, 505, 511, 513, 520, 1024, 2048} {
			refusedEncode(t, table.Dir{Leaves: leaves, Used: used(t, n, func(int) bool { return false })})
			refusedEncode(t, table.Dir{Leaves: leaves, Used: used(t, n, func(page int) bool { return page%2 == 0 })})
		}
	}
	refusedEncode(t, table.Dir{})
}

// 7.3: Encode neither changes nor shares what it is given.
func TestEncodeIsNew(t *testing.T) {
	for _, s := range sets(t) {
		d := table.Dir{Leaves: [4]int{2, 3, 4, 511}, Used: s}
		want := dirBytes(d.Leaves, s)
		told, _ := table.Encode(d)
		for at := range told {
			told[at] ^= 0xff
		}
		if again, e := table.Encode(d); e != api.OK || !bytes.Equal(again, want) || d.Used != s {
			t.Fatalf("Encode behind a changed answer: %v, %d", again, e)
		}
	}
}

// 7.3: Decode of too few bytes and of too many, with and without other
// faults.
func TestDecodeOfLengths(t *testing.T) {
	b := append(dirBytes([4]int{2, 0, 511, 256}, used(t, 512, func(page int) bool { return page%7 == 0 })), make([]byte, 4096)...)
	for _, n := range []int{0, 1, 4, 15, 16, 79, 80, 81, 128, 511, 513, 514, 1024, 4096} {
		want := api.ErrEnd
		if n > 512 {
			want = api.ErrLong
		}
		refusedDecode(t, b[:n], want)
		for _, fill := range []byte{0, 1, 0xff} {
			refusedDecode(t, bytes.Repeat([]byte{fill}, n), want)
		}
	}
	refusedDecode(t, nil, api.ErrEnd)
}

// 7.3: Decode of a leaf's page that may not be, in each place.
func TestDecodeOfPages(t *testing.T) {
	for _, s := range sets(t) {
		for _, leaves := range [][4]int{{}, {2, 3, 4, 5}} {
			for at := range 4 {
				for _, fault := range faults() {
					b := dirBytes(leaves, s)
					copy(b[at*4:], fault)
					refusedDecode(t, b, api.ErrForm)
				}
			}
		}
	}
}

// 7.3: Decode takes each page that may be, and no other one.
func TestDecodeOfEachPage(t *testing.T) {
	s := used(t, 512, func(page int) bool { return page < 9 })
	for at := range 4 {
		for page := range 1200 {
			leaves := [4]int{5, 6, 7, 0}
			leaves[at] = page
			b := dirBytes(leaves, s)
			if page == 1 || page > 511 {
				refusedDecode(t, b, api.ErrForm)
			} else if d, e := table.Decode(b); e != api.OK || d.Leaves != leaves || !d.Used.Same(s) {
				t.Fatalf("Decode of %v: %v, %d", leaves, d, e)
			}
		}
	}
}

// 7.3: Decode of a byte behind the set that isn't 0.
func TestDecodeOfTails(t *testing.T) {
	for at := 80; at < 512; at++ {
		for _, fill := range []byte{1, 0x80, 0xff} {
			b := dirBytes([4]int{2, 3, 4, 5}, used(t, 512, func(page int) bool { return page%2 == 0 }))
			b[at] = fill
			refusedDecode(t, b, api.ErrForm)
			b = make([]byte, 512)
			b[at] = fill
			refusedDecode(t, b, api.ErrForm)
		}
	}
	refusedDecode(t, bytes.Repeat([]byte{0xff}, 512), api.ErrForm)
}

// 7.3: Decode of any bytes of a set, and of zeros.
func TestDecodeOfSets(t *testing.T) {
	if d, e := table.Decode(make([]byte, 512)); e != api.OK || d.Leaves != [4]int{} || d.Used.Size() != 512 || d.Used.Count() != 0 {
		t.Errorf("Decode of zeros: %v, %d", d, e)
	}
	for at := 16; at < 80; at++ {
		for bit := range 8 {
			b := make([]byte, 512)
			b[at] = 1 << bit
			d, e := table.Decode(b)
			page := table.Page((at-16)*8 + bit)
			if e != api.OK || d.Used.Size() != 512 || d.Used.Count() != 1 || !d.Used.Has(page) {
				t.Fatalf("Decode of a set with %d: %v, %d", page, d, e)
			}
		}
	}
}

// 7.3: what was given to Decode may be changed later without the directory,
// and two directories go on by themselves.
func TestDecodeKeepsNothing(t *testing.T) {
	s := used(t, 512, func(page int) bool { return page%3 == 0 })
	leaves := [4]int{2, 0, 511, 300}
	given := dirBytes(leaves, s)
	d, e := table.Decode(given)
	o, f := table.Decode(given)
	if e != api.OK || f != api.OK || !bytes.Equal(given, dirBytes(leaves, s)) {
		t.Fatalf("Decode: %d, %d, %v", e, f, given)
	}
	for at := range given {
		given[at] ^= 0xff
	}
	for page := range table.Page(512) {
		o.Used.Put(page)
	}
	if d.Leaves != leaves || !d.Used.Same(s) {
		t.Errorf("a directory whose given bytes were changed: %v", d)
	}
}
