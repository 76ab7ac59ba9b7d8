package table_test

import (
	"bytes"
	"encoding/binary"
	"math"
	"slices"
	"testing"

	"hibernacle/api"
	"hibernacle/table"
)

// row is the disk's pages of the logical ones, 0 where none is told: a table
// by the chapter's words.
type row [512]int

// place is a logical page and the disk's.
type place struct{ l, page int }

func (r *row) get(l int) (int, bool) {
	if l < 0 || l > 511 {
		return 0, false
	}
	return r[l], r[l] != 0
}

func (r *row) set(l, page int) api.Errno {
	if l < 0 || l > 511 || page < 2 || page > 511 {
		return api.ErrRange
	}
	r[l] = page
	return api.OK
}

func (r *row) drop(l int) bool {
	if _, told := r.get(l); !told {
		return false
	}
	r[l] = 0
	return true
}

func (r *row) gap(from int) int {
	for l, page := range r {
		if l >= from && page == 0 {
			return l
		}
	}
	return -1
}

func (r *row) all() []place {
	var list []place
	for l, page := range r {
		if page != 0 {
			list = append(list, place{l, page})
		}
	}
	return list
}

func (r *row) leaf(i int) []byte {
	if i < 0 || i > 3 {
		return nil
	}
	return pagesAs(r[i*128 : i*128+128])
}

func (r *row) load(i int, b []byte) api.Errno {
	switch {
	case i < 0 || i > 3:
		return api.ErrRange
	case len(b) < 512:
		return api.ErrEnd
	case len(b) > 512:
		return api.ErrLong
	}
	was := *r
	for j := range 128 {
		page := binary.BigEndian.Uint32(b[j*4:])
		if page == 1 || page > 511 {
			*r = was
			return api.ErrForm
		}
		r[i*128+j] = int(page)
	}
	return api.OK
}

func (r *row) bare(i int) bool {
	return i < 0 || i > 3 || !slices.ContainsFunc(r[i*128:i*128+128], func(page int) bool { return page != 0 })
}

func (r *row) changed(o *row) []int {
	var list []int
	for i := range 4 {
		if !bytes.Equal(r.leaf(i), o.leaf(i)) {
			list = append(list, i)
		}
	}
	return list
}

// pagesAs is pages in four bytes each, the highest first.
func pagesAs(pages []int) []byte {
	var b []byte
	for _, page := range pages {
		b = binary.BigEndian.AppendUint32(b, uint32(page))
	}
	return b
}

// logicals are logical pages, at all edges, and numbers that are none.
func logicals() []int {
	return []int{math.MinInt, math.MinInt + 1, -1 << 32, -513, -512, -129, -128, -127, -2, -1, 0, 1, 2, 126, 127, 128, 129, 130,
		255, 256, 257, 383, 384, 385, 510, 511, 512, 513, 639, 640, 1023, 1024, 1 << 31, 1 << 32, 1<<32 + 5, 1 << 62,
		math.MaxInt - 1, math.MaxInt}
}

// pages are pages of the disk, at all edges, and numbers that are none.
func pages() []int {
	return []int{math.MinInt, math.MinInt + 2, -1 << 32, -1<<32 + 7, -512, -511, -2, -1, 0, 1, 2, 3, 127, 128, 255, 256, 257, 510,
		511, 512, 513, 767, 1 << 16, 1<<16 + 7, 1 << 24, 1<<24 + 7, 1 << 31, 1 << 32, 1<<32 + 7, 1 << 62, math.MaxInt - 1,
		math.MaxInt}
}

// rowOf is a row with pages where it is told so.
func rowOf(is func(l int) bool) row {
	var r row
	for l := range r {
		if is(l) {
			r[l] = 2 + l*7%510
		}
	}
	return r
}

// rows are rows that are empty, full, and between.
func rows() []row {
	list := []row{{}, rowOf(func(int) bool { return true })}
	for _, at := range []int{0, 1, 127, 128, 255, 256, 383, 384, 510, 511} {
		list = append(list, rowOf(func(l int) bool { return l == at }), rowOf(func(l int) bool { return l != at }),
			rowOf(func(l int) bool { return l < at }), rowOf(func(l int) bool { return l > at }))
	}
	for _, k := range []int{2, 3, 64, 128, 256} {
		list = append(list, rowOf(func(l int) bool { return l%k == 0 }), rowOf(func(l int) bool { return l%k != 0 }),
			rowOf(func(l int) bool { return l/k%2 == 0 }), rowOf(func(l int) bool { return l/k%2 == 1 }))
	}
	return list
}

// tableOf is the table of a row, made by Set.
func tableOf(t *testing.T, r row) *table.Table {
	t.Helper()
	x := table.New()
	for _, p := range r.all() {
		if e := x.Set(p.l, p.page); e != api.OK {
			t.Fatalf("Set(%d, %d): %d", p.l, p.page, e)
		}
	}
	return x
}

func allOf(x *table.Table) []place {
	var list []place
	for l, page := range x.All() {
		list = append(list, place{l, page})
	}
	return list
}

// check asks that a table is as a row, in all that tells of it as a whole.
func check(t *testing.T, name string, x *table.Table, r row) {
	t.Helper()
	if got, want := allOf(x), r.all(); !slices.Equal(got, want) {
		t.Fatalf("%s: All tells %v, not %v", name, got, want)
	}
	if got, want := x.Len(), len(r.all()); got != want {
		t.Fatalf("%s: Len is %d, not %d", name, got, want)
	}
	for i := range 4 {
		if got, want := x.Leaf(i), r.leaf(i); !bytes.Equal(got, want) {
			t.Fatalf("%s: Leaf(%d) is %v, not %v", name, i, got, want)
		}
		if got, want := x.Bare(i), r.bare(i); got != want {
			t.Fatalf("%s: Bare(%d) is %v", name, i, got)
		}
	}
}

// checkPage asks what a table tells of a logical page.
func checkPage(t *testing.T, name string, x *table.Table, r row, l int) {
	t.Helper()
	page, told := x.Get(l)
	if want, is := r.get(l); page != want || told != is {
		t.Fatalf("%s: Get(%d) is %d, %v, not %d, %v", name, l, page, told, want, is)
	}
	if got, want := x.Gap(l), r.gap(l); got != want {
		t.Fatalf("%s: Gap(%d) is %d, not %d", name, l, got, want)
	}
}

// 7.1, 7.2: the chapter's example.
func TestExample(t *testing.T) {
	x := table.New()
	was := x.Copy()
	if e := x.Set(130, 7); e != api.OK {
		t.Fatalf("Set(130, 7): %d", e)
	}
	want := make([]byte, 512)
	want[11] = 7
	if got := x.Leaf(1); !bytes.Equal(got, want) {
		t.Errorf("Leaf(1): %v", got)
	}
	if got := x.Changed(was); !slices.Equal(got, []int{1}) {
		t.Errorf("Changed: %v", got)
	}
}

// 7.1: a new table tells nothing, and each one is by itself.
func TestNew(t *testing.T) {
	x, o := table.New(), table.New()
	if x == nil || o == nil || x == o {
		t.Fatalf("New: %p, %p", x, o)
	}
	check(t, "a new table", x, row{})
	for _, l := range logicals() {
		checkPage(t, "a new table", x, row{}, l)
	}
	if e := x.Set(5, 9); e != api.OK {
		t.Fatalf("Set(5, 9): %d", e)
	}
	check(t, "another new table", o, row{})
}

// 7.1: Set of logical pages and of the disk's at all edges, each told once
// more with another page.
func TestSet(t *testing.T) {
	for _, l := range logicals() {
		for _, page := range pages() {
			x, r := table.New(), row{}
			for _, p := range []int{page, 300, page} {
				want := r.set(l, p)
				if got := x.Set(l, p); got != want {
					t.Fatalf("Set(%d, %d): %d, not %d", l, p, got, want)
				}
				checkPage(t, "a table with one page", x, r, l)
			}
			check(t, "a table with one page", x, r)
		}
	}
}

// 7.1: Set takes each page of the disk for each logical page; more of them may
// lie on one.
func TestSetTakesAll(t *testing.T) {
	x, r := table.New(), row{}
	for page := 2; page < 512; page++ {
		for l := range 512 {
			if e := x.Set(l, page); e != api.OK {
				t.Fatalf("Set(%d, %d): %d", l, page, e)
			}
			r[l] = page
		}
		check(t, "a table on one page", x, r)
	}
}

// 7.1: what Set refuses changes nothing.
func TestSetRefused(t *testing.T) {
	for _, r := range rows() {
		x := tableOf(t, r)
		for _, l := range logicals() {
			for _, page := range pages() {
				if o := r; o.set(l, page) == api.OK {
					continue
				}
				if e := x.Set(l, page); e != api.ErrRange {
					t.Fatalf("Set(%d, %d): %d", l, page, e)
				}
			}
		}
		check(t, "a table that refused", x, r)
	}
}

// 7.1: Get and Gap in tables that are empty, full, and between.
func TestGetAndGap(t *testing.T) {
	for _, r := range rows() {
		x := tableOf(t, r)
		for _, l := range logicals() {
			checkPage(t, "a table", x, r, l)
		}
		for l := -2; l < 514; l++ {
			checkPage(t, "a table", x, r, l)
		}
		check(t, "a table that was asked", x, r)
	}
}

// 7.1: Drop, told twice behind one another.
func TestDrop(t *testing.T) {
	for _, start := range rows() {
		x, r := tableOf(t, start), start
		for _, l := range logicals() {
			for range 2 {
				want := r.drop(l)
				if got := x.Drop(l); got != want {
					t.Fatalf("Drop(%d): %v", l, got)
				}
				checkPage(t, "a table behind Drop", x, r, l)
			}
		}
		check(t, "a table behind Drop", x, r)
		for l := range 512 {
			if got, want := x.Drop(l), r.drop(l); got != want {
				t.Fatalf("Drop(%d): %v", l, got)
			}
		}
		check(t, "a table without pages", x, row{})
	}
}

// 7.1: Set behind Drop tells anew.
func TestSetBehindDrop(t *testing.T) {
	for l := range 512 {
		x, r := table.New(), row{}
		r[l] = 4
		if x.Set(l, 3) != api.OK || !x.Drop(l) || x.Drop(l) || x.Set(l, 4) != api.OK {
			t.Fatalf("Set, Drop, Drop and Set of %d", l)
		}
		check(t, "a table behind Set, Drop and Set", x, r)
	}
}

// 7.1: Len and All, which is ranged over twice.
func TestAll(t *testing.T) {
	for _, r := range rows() {
		x := tableOf(t, r)
		check(t, "a table", x, r)
		all := x.All()
		for range 2 {
			var got []place
			for l, page := range all {
				got = append(got, place{l, page})
			}
			if want := r.all(); !slices.Equal(got, want) {
				t.Fatalf("All tells %v, not %v", got, want)
			}
		}
	}
}

// 7.1: All that is left amid the loop tells no more, and begins anew then.
func TestAllLeft(t *testing.T) {
	for _, r := range rows() {
		all, want := tableOf(t, r).All(), r.all()
		for _, n := range []int{1, 2, 100, 511, 512} {
			var got []place
			for l, page := range all {
				got = append(got, place{l, page})
				if len(got) == n {
					break
				}
			}
			if !slices.Equal(got, want[:min(n, len(want))]) {
				t.Fatalf("All that is left behind %d: %v", n, got)
			}
		}
	}
}

// 7.1: what All tells is what the table told when it was asked, whatever it is
// changed to, also amid the loop (by the rule that what is told is new
// memory).
func TestAllStays(t *testing.T) {
	for _, r := range rows() {
		x := tableOf(t, r)
		all := x.All()
		for range 2 {
			var got []place
			for l, page := range all {
				got = append(got, place{l, page})
				x.Drop(l)
				x.Drop(l + 1)
				x.Set(l+2, 5)
				x.Set(511, 6)
			}
			if want := r.all(); !slices.Equal(got, want) {
				t.Fatalf("All of a table that changes tells %v, not %v", got, want)
			}
		}
	}
}
