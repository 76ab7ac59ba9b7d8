package table_test

import (
	"bytes"
	"math"
	"slices"
	"testing"

	"hibernacle/api"
	"hibernacle/table"
)

// noLeaves are numbers of no leaf.
func noLeaves() []int {
	return []int{math.MinInt, math.MinInt + 3, -1 << 32, -128, -4, -3, -2, -1, 4, 5, 127, 128, 511, 512, 1 << 32, 1<<32 + 1,
		math.MaxInt - 3, math.MaxInt}
}

// faults are what four bytes may not tell.
func faults() [][]byte {
	return [][]byte{{0, 0, 0, 1}, {0, 0, 2, 0}, {0, 0, 2, 1}, {0, 0, 3, 0xff}, {0, 0, 4, 0}, {0, 0, 0x80, 0}, {0, 0, 0xff, 0xff},
		{0, 1, 0, 0}, {0, 1, 0, 7}, {0, 0x80, 0, 7}, {1, 0, 0, 0}, {1, 0, 0, 7}, {1, 0, 1, 7}, {0x7f, 0xff, 0xff, 0xff},
		{0x80, 0, 0, 0}, {0x80, 0, 0, 7}, {0xff, 0xff, 0xff, 0xff}, {0xff, 0xff, 0xfe, 7}}
}

// another is a page of the disk that isn't the one that is told.
func another(page int) int {
	if page == 511 {
		return 2
	}
	return max(page, 1) + 1
}

// sound is a leaf's bytes that tell other pages than rows do.
func sound() []byte {
	pages := make([]int, 128)
	for j := range pages {
		pages[j] = []int{0, 2, 3, 255, 256, 257, 510, 511}[j*5/3%8]
	}
	return pagesAs(pages)
}

// 7.2: leaves' bytes, of tables that are empty, full, and between; none of a
// leaf that isn't there.
func TestLeaf(t *testing.T) {
	for _, r := range rows() {
		x := tableOf(t, r)
		check(t, "a table", x, r)
		for _, i := range noLeaves() {
			if got := x.Leaf(i); len(got) != 0 {
				t.Fatalf("Leaf(%d): %v", i, got)
			}
		}
	}
}

// 7.2: each page of the disk in its bytes.
func TestLeafOfEachPage(t *testing.T) {
	for page := 2; page < 512; page++ {
		x, l := table.New(), page*37%512
		if e := x.Set(l, page); e != api.OK {
			t.Fatalf("Set(%d, %d): %d", l, page, e)
		}
		want := make([]byte, 512)
		want[l%128*4+2], want[l%128*4+3] = byte(page/256), byte(page%256)
		if got := x.Leaf(l / 128); !bytes.Equal(got, want) {
			t.Fatalf("Leaf of %d on %d: %v", l, page, got)
		}
	}
}

// 7.2: what Leaf tells may be changed later without the table.
func TestLeafIsNew(t *testing.T) {
	for _, r := range rows() {
		x := tableOf(t, r)
		for i := range 4 {
			told, other := x.Leaf(i), x.Leaf(i)
			for at := range told {
				told[at] ^= 0xff
			}
			if !bytes.Equal(other, r.leaf(i)) {
				t.Fatalf("Leaf(%d) shares memory with another answer", i)
			}
		}
		check(t, "a table whose leaves' bytes were changed", x, r)
	}
}

// 7.2: Load of each leaf; the others stay.
func TestLoad(t *testing.T) {
	for _, start := range rows() {
		for i := range 4 {
			for _, b := range [][]byte{sound(), make([]byte, 512), start.leaf(3 - i), start.leaf(i)} {
				x, r := tableOf(t, start), start
				want := r.load(i, b)
				if got := x.Load(i, b); got != api.OK || got != want {
					t.Fatalf("Load(%d) of %v: %d", i, b, got)
				}
				check(t, "a table with a loaded leaf", x, r)
				for _, l := range logicals() {
					checkPage(t, "a table with a loaded leaf", x, r, l)
				}
			}
		}
	}
}

// 7.2: Load neither changes nor keeps what it is given.
func TestLoadKeepsNothing(t *testing.T) {
	x, r := table.New(), row{}
	b := sound()
	given := bytes.Clone(b)
	if e := x.Load(2, given); e != api.OK || !bytes.Equal(given, b) {
		t.Fatalf("Load: %d, %v", e, given)
	}
	r.load(2, b)
	for at := range given {
		given[at] = 1
	}
	check(t, "a table whose given bytes were changed", x, r)
	given = bytes.Clone(b)
	given[511], given[508] = 1, 1
	kept := bytes.Clone(given)
	if e := x.Load(2, given); e != api.ErrForm || !bytes.Equal(given, kept) {
		t.Fatalf("Load of a page that may not be: %d, %v", e, given)
	}
}

// 7.2: Load tells each page that may be, and no other one.
func TestLoadOfEachPage(t *testing.T) {
	for page := range 1200 {
		x, r := table.New(), row{}
		b := pagesAs(append(make([]int, 127), page))
		want := r.load(1, b)
		if got := x.Load(1, b); got != want {
			t.Fatalf("Load of the page %d: %d, not %d", page, got, want)
		}
		if may := page == 0 || page >= 2 && page <= 511; may != (want == api.OK) {
			t.Fatalf("the model takes the page %d: %v", page, !may)
		}
		check(t, "a table with a loaded leaf", x, r)
	}
}

// refusedLoad asks that a Load is refused, and leaves the table as it was.
func refusedLoad(t *testing.T, i int, b []byte, want api.Errno) {
	t.Helper()
	for _, r := range []row{{}, rowOf(func(l int) bool { return l%3 != 0 }), rowOf(func(int) bool { return true })} {
		x := tableOf(t, r)
		if got := x.Load(i, b); got != want {
			t.Fatalf("Load(%d) of %d bytes %v: %d, not %d", i, len(b), b, got, want)
		}
		check(t, "a table that refused", x, r)
	}
}

// 7.2: Load of a page that may not be, in the first, a middle and the last
// place, alone and more than one at once.
func TestLoadOfFaults(t *testing.T) {
	for _, fault := range faults() {
		for i := range 4 {
			for _, at := range []int{0, 1, 63, 64, 126, 127} {
				for _, b := range [][]byte{sound(), make([]byte, 512)} {
					copy(b[at*4:], fault)
					refusedLoad(t, i, b, api.ErrForm)
				}
			}
			refusedLoad(t, i, bytes.Repeat(fault, 128), api.ErrForm)
		}
	}
}

// 7.2: Load of too few bytes and of too many, with and without pages that may
// not be.
func TestLoadOfLengths(t *testing.T) {
	for _, n := range []int{0, 1, 3, 4, 5, 128, 256, 508, 510, 511, 513, 514, 516, 640, 1023, 1024, 4096} {
		want := api.ErrEnd
		if n > 512 {
			want = api.ErrLong
		}
		for i := range 4 {
			for _, fill := range []byte{0, 1, 0xff} {
				refusedLoad(t, i, bytes.Repeat([]byte{fill}, n), want)
			}
			b := append(sound(), make([]byte, 4096)...)[:n]
			refusedLoad(t, i, b, want)
		}
	}
	refusedLoad(t, 0, nil, api.ErrEnd)
	refusedLoad(t, 3, []byte{}, api.ErrEnd)
}

// 7.2: Load of leaves that aren't there, whatever is wrong with the bytes, too.
func TestLoadOfNoLeaf(t *testing.T) {
	for _, i := range noLeaves() {
		for _, n := range []int{0, 1, 511, 512, 513, 1024} {
			for _, fill := range []byte{0, 1, 0xff} {
				refusedLoad(t, i, bytes.Repeat([]byte{fill}, n), api.ErrRange)
			}
		}
		refusedLoad(t, i, sound(), api.ErrRange)
		refusedLoad(t, i, nil, api.ErrRange)
	}
}

// 7.2: Bare of leaves with none, one and all of their pages told.
func TestBare(t *testing.T) {
	for l := range 512 {
		x, r := table.New(), row{}
		r[l] = 2
		for i := range 4 {
			if !x.Bare(i) {
				t.Fatalf("Bare(%d) of a new table: no", i)
			}
		}
		if e := x.Set(l, 2); e != api.OK {
			t.Fatalf("Set(%d, 2): %d", l, e)
		}
		check(t, "a table with one page", x, r)
		x.Drop(l)
		if !x.Bare(l / 128) {
			t.Fatalf("Bare(%d) behind Drop: no", l/128)
		}
	}
	for _, r := range rows() {
		x := tableOf(t, r)
		check(t, "a table", x, r)
		for _, i := range noLeaves() {
			if !x.Bare(i) {
				t.Fatalf("Bare(%d): no", i)
			}
		}
	}
}

// 7.2: Changed of tables that differ in no leaf, in one, and in several ones.
func TestChanged(t *testing.T) {
	for which := range 16 {
		for _, start := range rows() {
			x, o := tableOf(t, start), tableOf(t, start)
			var want []int
			for i := range 4 {
				if which>>i&1 == 1 {
					l := i*128 + []int{0, 127, 64, 5}[i]
					o.Set(l, another(start[l]))
					want = append(want, i)
				}
			}
			if got, back := x.Changed(o), o.Changed(x); !slices.Equal(got, want) || !slices.Equal(back, want) {
				t.Fatalf("Changed of what differs in %v: %v, and back %v", want, got, back)
			}
		}
	}
}

// 7.2: Changed of any two rows, of a table with itself, its copy, and nil.
func TestChangedOfAll(t *testing.T) {
	list := rows()
	tables := make([]*table.Table, len(list))
	for i, r := range list {
		tables[i] = tableOf(t, r)
	}
	for i, x := range tables {
		for j, o := range tables {
			if got, want := x.Changed(o), list[i].changed(&list[j]); !slices.Equal(got, want) {
				t.Fatalf("Changed: %v, not %v", got, want)
			}
		}
		if got := x.Changed(x); len(got) != 0 {
			t.Fatalf("Changed of a table with itself: %v", got)
		}
		if got, back := x.Changed(x.Copy()), x.Copy().Changed(x); len(got) != 0 || len(back) != 0 {
			t.Fatalf("Changed of a table with its copy: %v, %v", got, back)
		}
		if got, want := x.Changed(nil), list[i].changed(new(row)); !slices.Equal(got, want) {
			t.Fatalf("Changed of a table with none: %v, not %v", got, want)
		}
		check(t, "a table that was asked", x, list[i])
	}
}

// 7.2: Changed tells of leaves' bytes, not of what was done to them; one page
// anywhere is enough.
func TestChangedByBytes(t *testing.T) {
	for l := range 512 {
		x := table.New()
		o := x.Copy()
		x.Set(l, 3)
		if got := x.Changed(o); !slices.Equal(got, []int{l / 128}) {
			t.Fatalf("Changed behind Set(%d, 3): %v", l, got)
		}
		o.Set(l, 259)
		if got := x.Changed(o); !slices.Equal(got, []int{l / 128}) {
			t.Fatalf("Changed of 3 and 259: %v", got)
		}
		o.Set(l, 3)
		if got := x.Changed(o); len(got) != 0 {
			t.Fatalf("Changed of two tables with one page: %v", got)
		}
		x.Drop(l)
		if got := x.Changed(nil); len(got) != 0 {
			t.Fatalf("Changed behind Drop: %v", got)
		}
	}
}

// 7.2: what Changed tells is new memory.
func TestChangedIsNew(t *testing.T) {
	x := tableOf(t, rowOf(func(int) bool { return true }))
	told := x.Changed(nil)
	told[0], told[3] = 9, 9
	if got := x.Changed(nil); !slices.Equal(got, []int{0, 1, 2, 3}) {
		t.Errorf("Changed once more: %v", got)
	}
}

// 7.2: a copy and its table go on by themselves.
func TestCopy(t *testing.T) {
	for _, r := range rows() {
		x := tableOf(t, r)
		c := x.Copy()
		check(t, "a copy", c, r)
		rx, rc := r, r
		for _, l := range []int{0, 127, 128, 300, 511} {
			if x.Drop(l) != rx.drop(l) || c.Set(l, 77) != rc.set(l, 77) {
				t.Fatalf("Drop of a table and Set of its copy at %d", l)
			}
		}
		check(t, "a table beside its copy", x, rx)
		check(t, "a copy beside its table", c, rc)
		if x.Load(1, sound()) != rx.load(1, sound()) || c.Load(2, sound()) != rc.load(2, sound()) {
			t.Fatal("Load of a table and of its copy")
		}
		check(t, "a table beside its copy", x, rx)
		check(t, "a copy beside its table", c, rc)
	}
}

// 7.1, 7.2: every call on a nil table, whatever else is wrong, too.
func TestNilTable(t *testing.T) {
	var x *table.Table
	for _, l := range logicals() {
		if page, told := x.Get(l); page != 0 || told {
			t.Errorf("Get(%d): %d, %v", l, page, told)
		}
		if x.Drop(l) || x.Gap(l) != -1 {
			t.Errorf("Drop(%d), Gap(%d): %v, %d", l, l, x.Drop(l), x.Gap(l))
		}
		for _, page := range pages() {
			if e := x.Set(l, page); e != api.ErrArg {
				t.Errorf("Set(%d, %d): %d", l, page, e)
			}
		}
	}
	if x.Len() != 0 || len(allOf(x)) != 0 || x.All() == nil || x.Copy() != nil {
		t.Errorf("Len %d, All %v, Copy %v", x.Len(), allOf(x), x.Copy())
	}
	for _, i := range append([]int{0, 1, 2, 3}, noLeaves()...) {
		if len(x.Leaf(i)) != 0 || x.Bare(i) {
			t.Errorf("Leaf(%d), Bare(%d): %v, %v", i, i, x.Leaf(i), x.Bare(i))
		}
		for _, n := range []int{0, 1, 511, 512, 513} {
			for _, fill := range []byte{0, 1} {
				if e := x.Load(i, bytes.Repeat([]byte{fill}, n)); e != api.ErrArg {
					t.Errorf("Load(%d) of %d bytes %d: %d", i, n, fill, e)
				}
			}
		}
	}
	full := tableOf(t, rowOf(func(int) bool { return true }))
	for _, o := range []*table.Table{nil, table.New(), full} {
		if got := x.Changed(o); len(got) != 0 {
			t.Errorf("Changed: %v", got)
		}
	}
}
