package store_test

import (
	"strings"
	"testing"

	"hibernacle/api"
)

// wantPages asks that just these pages are there, with these bytes, but for
// the zeros behind them; it goes ahead of the plain store, by hand.
func (b *both) wantPages(name string, want ...string) {
	b.t.Helper()
	got := pagesOf(b.t, b.s.Space())
	for l, text := range want {
		if text == none {
			if _, there := got[l]; there {
				b.t.Fatalf("%s: the page %d is there", name, l)
			}
			continue
		}
		if got[l] != padded(text) {
			b.t.Fatalf("%s: the page %d has\n%q, not\n%q", name, l, got[l], text)
		}
		delete(got, l)
	}
	if len(got) > 0 {
		b.t.Fatalf("%s: %d pages more", name, len(got))
	}
	b.check(name)
}

// none stands for a page that isn't there.
const none = "none"

// spots is the bytes of spots.
func spots(row ...int) string {
	text := ""
	for _, at := range row {
		text += number(at, 4)
	}
	return text
}

// 12.1, 12.2: by hand, the bytes of the head, of a part and of records.
func TestPageBytes(t *testing.T) {
	b := newBoth(t, 512)
	b.wantPages("no things", "HOBJ")
	b.add("x")
	b.wantPages("one thing", "HOBJ\x01\x00\x01", spots(129), "\x01\x00\x03\x00x")
	b.add("")
	b.wantPages("two things", "HOBJ\x01\x00\x01", spots(129, 130), "\x02\x00\x03\x00\x02\x00x\x00")
	b.put(1, "yz")
	b.wantPages("put: the new one is laid ahead of the old one's going", "HOBJ\x01\x00\x01", spots(131, 130), "\x03\x00\x00\x00\x02\x00\x04\x00\x00yz")
	b.drop(1)
	b.wantPages("dropped", "HOBJ\x01\x00\x01", spots(0, 130), "\x02\x00\x00\x00\x02\x00")
	long := thing(480, 3)
	b.add(long)
	b.wantPages("480 bytes", "HOBJ\x01\x00\x01", spots(129, 130), "\x02\x00\x08\x00\x02\x01\x00\x00\x01\xe0\x00\x03\x00", long)
	short := thing(479, 4)
	b.add(short)
	b.wantPages("479 bytes", "HOBJ\x01\x00\x01", spots(129, 130, 131), "\x03\x00\x08\x00\x02\x01\xe1\x01\x00\x00\x01\xe0\x00\x03\x00\x00"+short, long)
	b.drop(1)
	b.wantPages("the long one dropped", "HOBJ\x01\x00\x01", spots(0, 130, 131), "\x03\x00\x00\x00\x02\x01\xe1\x00\x00"+short)
	b.drop(2, 3)
	b.wantPages("all dropped", "HOBJ\x01\x00\x01", spots())
	b.clear()
	b.wantPages("cleared", "HOBJ")
}

// 12.2: a long thing's pages lie one after the other, ahead of its record's
// page, behind the part that lacks.
func TestOrderOfPages(t *testing.T) {
	b := newBoth(t, 512)
	long := thing(16384, 1)
	b.add(long)
	want := []string{"HOBJ\x01\x00\x01", spots(64*34 + 1)}
	rec := "\x01\x00\x00\x40\x00"
	for i := range 32 {
		want = append(want, long[512*i:][:512])
		rec += number(2+i, 2)
	}
	b.wantPages("16,384 bytes", append(want, "\x01\x00\x46"+rec)...)
	// The pages of what is put anew are new ones; those that are behind the
	// old one's are the least ones now.
	other := thing(1025, 2)
	b.put(1, other)
	want = []string{"HOBJ\x01\x00\x01", spots(64*34 + 2)}
	for range 32 {
		want = append(want, none)
	}
	rec = "\x01\x00\x00\x04\x01\x00\x23\x00\x24\x00\x25"
	b.wantPages("put", append(want, "\x02\x00\x00\x00\x0c"+rec, other[:512], other[512:1024], other[1024:])...)
	third := thing(513, 3)
	b.add(third)
	want[1] = spots(64*34+2, 64*34+1)
	want[2], want[3] = third[:512], third[512:]
	b.wantPages("the least pages", append(want, "\x02\x00\x0a\x00\x0c"+"\x01\x00\x00\x02\x01\x00\x02\x00\x03"+rec, other[:512], other[512:1024], other[1024:])...)
}

// 12.2: a part of the table that lacks is allocated first.
func TestOrderOfParts(t *testing.T) {
	b := newBoth(t, 512)
	for range 128 {
		b.add("")
	}
	one := strings.Repeat("\x00", 64)
	sizes := strings.Repeat("\x00\x02", 64)
	row := make([]int, 128)
	for i := range row {
		row[i] = 129 + i
	}
	full := "\x40" + sizes + one
	b.wantPages("128 things", "HOBJ\x01\x00\x01", spots(row...), full, full)
	long := thing(1000, 1)
	b.add(long)
	b.wantPages("a part, two pages, the record's", "HOBJ\x02\x00\x01\x00\x04", spots(row...), full, full,
		spots(64*7+1), long[:512], long[512:], "\x01\x00\x0a\x01\x00\x00\x03\xe8\x00\x05\x00\x06")
	// The least page without things is taken by what comes next.
	for n := range 64 {
		b.drop(n + 1)
		row[n] = 0
	}
	b.wantPages("a page that has nothing any more", "HOBJ\x02\x00\x01\x00\x04", spots(row...), none, full,
		spots(64*7+1), long[:512], long[512:], "\x01\x00\x0a\x01\x00\x00\x03\xe8\x00\x05\x00\x06")
}

// 12.2: a record is laid in the page with the least logical number that has
// room for it, else in a new one.
func TestLeastPageWithRoom(t *testing.T) {
	b := newBoth(t, 512)
	page := func(n, l, slot int) {
		t.Helper()
		if b.x.at[n] != [2]int{l, slot} {
			t.Errorf("the thing %d lies in %v, not in %d, %d", n, b.x.at[n], l, slot)
		}
		b.check("added")
	}
	// Of a page's 512 bytes one tells how many slots there are, and each slot
	// takes two; a record has a byte more than its thing.
	b.add(thing(479, 1))
	page(1, 2, 0)
	b.add(thing(27, 2))
	page(2, 3, 0)
	b.add(thing(26, 3))
	page(3, 2, 1)
	b.add("")
	page(4, 3, 1)
	b.add(thing(300, 4))
	page(5, 3, 2)
	b.add(thing(300, 5))
	page(6, 4, 0)
	b.add(thing(172, 6))
	page(7, 3, 3)
	b.add("")
	page(8, 4, 1)
	// The page 2 has room again, though others have more of it.
	b.drop(3)
	b.add("ab")
	page(3, 2, 1)
	// What is put anew doesn't come into the room of what it was, but of what
	// it was ahead of that.
	b.put(1, thing(478, 7))
	page(1, 5, 0)
	b.put(1, thing(477, 7))
	page(1, 2, 0)
	b.put(1, thing(400, 7))
	page(1, 5, 0)
	b.add(thing(480, 8))
	if got := b.x.long[9]; len(got) != 1 || got[0] != 6 {
		t.Errorf("the thing's pages are %v", got)
	}
	page(9, 2, 0)
}

// 12.2: a page has at most 64 records.
func TestPageOf64(t *testing.T) {
	b := newBoth(t, 512)
	for n := range 65 {
		b.add(thing(n%3, n))
	}
	if b.x.at[64] != [2]int{2, 63} || b.x.at[65] != [2]int{3, 0} {
		t.Errorf("the things 64 and 65 lie in %v and %v", b.x.at[64], b.x.at[65])
	}
	b.check("65 things")
	b.put(10, "abc")
	if b.x.at[10] != [2]int{3, 1} {
		t.Errorf("the thing 10 lies in %v", b.x.at[10])
	}
	b.put(65, "x")
	if b.x.at[65] != [2]int{2, 9} {
		t.Errorf("the thing 65 lies in %v", b.x.at[65])
	}
	b.check("two put")
}

// 12.2: pages that have nothing any more are dropped, the head and the parts
// stay.
func TestPagesGo(t *testing.T) {
	b := newBoth(t, 512)
	pages := func(name string, want int) {
		t.Helper()
		b.check(name)
		if n := b.s.Space().Len(); n != want {
			t.Errorf("%s: %d pages, not %d", name, n, want)
		}
	}
	b.add(thing(400, 1))
	b.add(thing(400, 2))
	b.add(thing(5000, 3))
	pages("three things", 2+2+10)
	b.put(3, thing(600, 3))
	pages("a long one that is shorter now", 2+2+2)
	b.put(3, "")
	pages("one that is short now", 2+2)
	b.drop(1)
	pages("its page has another record", 4)
	b.drop(3)
	pages("its page has none", 3)
	b.put(2, thing(5000, 2))
	pages("a short one that is long now", 2+1+10)
	b.put(2, thing(5000, 4))
	pages("long again", 2+1+10)
	b.drop(2)
	pages("nothing", 2)
	for range 3 {
		if e := b.s.Drop(2); e != api.ErrNone {
			t.Errorf("Drop: %d", e)
		}
	}
	pages("nothing", 2)
}
