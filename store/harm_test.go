package store_test

import (
	"fmt"
	"maps"
	"slices"
	"testing"

	"hibernacle/api"
	"hibernacle/pager"
	"hibernacle/store"
)

// spaceOf is a space with pages of these bytes.
func spaceOf(t *testing.T, pages map[int]string) *pager.Space {
	t.Helper()
	sp := newSpace(t, newDisk(t, 64))
	for l := range slices.Max(slices.Collect(maps.Keys(pages))) + 1 {
		_, e := sp.Alloc()
		do(t, "Alloc", e)
		if text, there := pages[l]; there {
			do(t, "Write", sp.Write(l, text))
		}
	}
	for l := range sp.All() {
		if _, there := pages[l]; !there {
			do(t, "Drop", sp.Drop(l))
		}
	}
	return sp
}

// sound is a store with two parts, two pages with records, and long things of
// one, two and two pages.
func sound() *plain {
	x := newPlain()
	for n := range 130 {
		x.add(thing(n%3, n))
	}
	for _, n := range []int{1, 2, 3, 4} {
		x.put(n, thing([]int{480, 1024, 1000, 300}[n-1], n))
	}
	for n := 10; n < 128; n++ {
		x.drop(n)
	}
	return x
}

// changed is bytes that are other ones from a place on.
func changed(text string, at int, now string) string {
	return text[:at] + now + text[at+len(now):]
}

// at is where a number's spot stands in its part.
func at(n int) int {
	return (n - 1) % 128 * 4
}

// 12.1: what is a store's is opened; nothing of it may be changed so that it
// isn't one's.
func TestHarm(t *testing.T) {
	x := sound()
	pages := x.pages()
	checkThings(t, "sound", open(t, spaceOf(t, pages)), x)
	one, two := x.parts[0], x.parts[1]
	first, second := x.at[1][0], x.at[5][0]
	slot := func(n int) int { return 64*x.at[n][0] + x.at[n][1] + 1 }
	rec := func(n int) string { return *x.slots[x.at[n][0]][x.at[n][1]] }
	// laid is the page with a number's record, if that were another one.
	laid := func(n int, rec string) string {
		y := x.clone()
		y.slots[y.at[n][0]][y.at[n][1]] = &rec
		return padded(slotText(y.slots[y.at[n][0]]))
	}
	long := x.long
	harms := []struct {
		name string
		page int
		text string
	}{
		{"zeros as the head", 0, padded("")},
		{"a head with another name", 0, changed(pages[0], 3, "S")},
		{"a head with a name in small letters", 0, changed(pages[0], 0, "h")},
		{"a head with 65 parts", 0, changed(pages[0], 4, "\x41")},
		{"a head with 255 parts", 0, changed(pages[0], 4, "\xff")},
		{"a head with a part more", 0, changed(pages[0], 4, "\x03")},
		{"a head with a part less", 0, changed(pages[0], 4, "\x01")},
		{"a head with something behind", 0, changed(pages[0], 511, "\x01")},
		{"a head with something next behind", 0, changed(pages[0], 9, "\x01")},
		{"a part in the head", 0, changed(pages[0], 7, number(0, 2))},
		{"a part in the other one", 0, changed(pages[0], 7, number(one, 2))},
		{"a part in a page that isn't there", 0, changed(pages[0], 7, number(100, 2))},
		{"a part in a page that can't be", 0, changed(pages[0], 7, number(512+two, 2))},
		{"a part in a page with records", 0, changed(pages[0], 7, number(first, 2))},
		{"a part in a long thing's page", 0, changed(pages[0], 7, number(long[2][1], 2))},
		{"a spot in a page that isn't there", one, changed(pages[one], at(1), number(64*100+1, 4))},
		{"a spot in a page that can't be", one, changed(pages[one], at(5), number(slot(5)+64*512, 4))},
		{"a spot far off", one, changed(pages[one], at(5), "\xff\xff\xff\xff")},
		{"a spot with a high byte", one, changed(pages[one], at(5), "\x01")},
		{"a spot in the head", one, changed(pages[one], at(1), number(1, 4))},
		{"a spot in a part", one, changed(pages[one], at(1), number(64*one+1, 4))},
		{"a spot in a long thing's page", one, changed(pages[one], at(1), number(64*long[2][0]+1, 4))},
		{"a slot that is bare", one, changed(pages[one], at(5), number(64*first+10+1, 4))},
		{"a slot behind the last", one, changed(pages[one], at(5), number(64*second+63+1, 4))},
		{"a slot that is told twice", one, changed(pages[one], at(5), number(slot(6), 4))},
		{"a slot that is told in two parts", two, changed(pages[two], at(200), number(slot(6), 4))},
		{"a long thing that is told twice", two, changed(pages[two], at(200), number(slot(2), 4))},
		{"zeros as a page with records", second, padded("")},
		{"a page with records that is none", first, padded("HOBJ")},
		{"a page of 65 slots", first, changed(pages[first], 0, "\x41")},
		{"a page with something behind", first, changed(pages[first], 511, "\x01")},
		{"a record of another kind", x.at[5][0], laid(5, "\x02x")},
		{"a record of a kind far off", x.at[5][0], laid(5, "\xff")},
		{"a record without bytes", x.at[5][0], laid(5, "")},
		{"a long thing without pages", x.at[1][0], laid(1, "\x01")},
		{"a long thing whose size is cut", x.at[1][0], laid(1, rec(1)[:4])},
		{"a long thing whose page is lacking", x.at[1][0], laid(1, rec(1)[:5])},
		{"a long thing whose page is cut", x.at[1][0], laid(1, rec(1)[:6])},
		{"a long thing with something behind", x.at[1][0], laid(1, rec(1)+"\x00")},
		{"a long thing with a page more", x.at[1][0], laid(1, rec(1)+number(100, 2))},
		{"a long thing of 479 bytes", x.at[1][0], laid(1, "\x01"+number(479, 4)+rec(1)[5:])},
		{"a long thing of no bytes", x.at[1][0], laid(1, "\x01"+number(0, 4))},
		{"a long thing of a byte", x.at[1][0], laid(1, "\x01"+number(1, 4)+rec(1)[5:])},
		{"a long thing of 4 bytes", x.at[1][0], laid(1, "\x01"+number(4, 4))},
		{"a long thing of 6 bytes", x.at[1][0], laid(1, "\x01"+number(6, 4)+rec(1)[5:])},
		{"a long thing of 513 bytes in a page", x.at[1][0], laid(1, "\x01"+number(513, 4)+rec(1)[5:])},
		{"a long thing of 512 bytes in two pages", x.at[2][0], laid(2, "\x01"+number(512, 4)+rec(2)[5:])},
		{"a long thing of very many bytes", x.at[1][0], laid(1, "\x01\xff\xff\xff\xff"+rec(1)[5:])},
		{"a long thing whose size has a high byte", x.at[1][0], laid(1, "\x01\x01\x00\x01\xe0"+rec(1)[5:])},
		{"a long thing in a page that isn't there", x.at[1][0], laid(1, rec(1)[:5]+number(100, 2))},
		{"a long thing in a page that can't be", x.at[1][0], laid(1, rec(1)[:5]+number(512+long[1][0], 2))},
		{"a long thing in the head", x.at[1][0], laid(1, rec(1)[:5]+number(0, 2))},
		{"a long thing in a part", x.at[1][0], laid(1, rec(1)[:5]+number(two, 2))},
		{"a long thing in its record's page", x.at[1][0], laid(1, rec(1)[:5]+number(x.at[1][0], 2))},
		{"a long thing in a page with records", x.at[1][0], laid(1, rec(1)[:5]+number(x.at[130][0], 2))},
		{"a long thing in another one's page", x.at[1][0], laid(1, rec(1)[:5]+number(long[2][0], 2))},
		{"a long thing in one page twice", x.at[2][0], laid(2, rec(2)[:5]+number(long[2][0], 2)+number(long[2][0], 2))},
		{"a long thing of fewer bytes", x.at[3][0], laid(3, "\x01"+number(999, 4)+rec(3)[5:])},
		{"a long thing's page with something behind", long[1][0], changed(pages[long[1][0]], 480, "\x01")},
		{"a long thing's page with something far behind", long[3][1], changed(pages[long[3][1]], 511, "\x01")},
	}
	for _, h := range harms {
		if pages[h.page] == h.text || len(h.text) != 512 {
			t.Fatalf("%s is no harm", h.name)
		}
		now := maps.Clone(pages)
		now[h.page] = h.text
		if s, e := store.Open(spaceOf(t, now)); s != nil || e != api.ErrHarm {
			t.Errorf("%s: Open: %v, %d", h.name, s, e)
		}
	}
	for l := range pages {
		now := maps.Clone(pages)
		delete(now, l)
		want := api.ErrHarm
		if l == 0 {
			want = api.ErrNone
		}
		if s, e := store.Open(spaceOf(t, now)); s != nil || e != want {
			t.Errorf("without the page %d: Open: %v, %d", l, s, e)
		}
	}
}

// 12.1: a long thing whose bytes could be a page with records, and a number
// that tells such a record.
func TestHarmOfAThingLikeAPage(t *testing.T) {
	for _, first := range []int{1, 2} {
		x := newPlain()
		rec := "\x00z"
		x.add(padded(slotText([]*string{&rec})))
		if first == 2 {
			x.add("y")
			x.put(1, x.things[1])
			x.drop(2)
		}
		pages := x.pages()
		checkThings(t, "sound", open(t, spaceOf(t, pages)), x)
		now := changed(pages[1], at(2), number(64*x.long[1][0]+1, 4))
		if first == 2 {
			// The number that tells the record comes ahead of the thing.
			now = changed(changed(pages[1], at(1), number(64*x.long[1][0]+1, 4)), at(2), pages[1][:4])
		}
		pages[1] = now
		if s, e := store.Open(spaceOf(t, pages)); s != nil || e != api.ErrHarm {
			t.Errorf("%d: Open: %v, %d", first, s, e)
		}
	}
}

// 12.2: a page with records that is another one than it was: what comes into
// it would be lost.
func TestHarmOfRoom(t *testing.T) {
	b := newBoth(t, 64)
	b.add("x")
	sp := b.s.Space()
	do(t, "Write", sp.Write(2, padded("\x02\x00\x03\x01\xe1\x00x"+thing(480, 1))))
	was := stateOf(t, sp)
	for _, length := range []int{0, 30, 478, 480} {
		if n, e := b.s.Add(thing(length, 1)); n != 0 || e != api.ErrHarm {
			t.Errorf("Add of %d bytes: %d, %d", length, n, e)
		}
		if e := b.s.Put(1, thing(length, 1)); e != api.ErrHarm {
			t.Errorf("Put of %d bytes: %d", length, e)
		}
	}
	if !stateOf(t, sp).equal(was) {
		t.Error("what was refused changed the space")
	}
}

// 12.1: a head with as many parts as may be, and with one more.
func TestHarmOfTooManyParts(t *testing.T) {
	for parts, want := range map[int]api.Errno{64: api.OK, 65: api.ErrHarm} {
		head := "HOBJ" + number(parts, 1)
		pages := map[int]string{}
		for i := range parts {
			head += number(i+1, 2)
			pages[i+1] = padded("")
		}
		pages[0] = padded(head)
		s, e := store.Open(spaceOf(t, pages))
		if e != want || (s == nil) != (want != api.OK) {
			t.Errorf("%d parts: Open: %v, %d", parts, s, e)
		}
		if e == api.OK {
			n, e := s.Add("x")
			if n != 1 || e != api.OK {
				t.Errorf("%d parts: Add: %d, %d", parts, n, e)
			}
		}
	}
}

// tooLongRec is the record of a thing of more bytes than may be, in pages.
func tooLongRec(first int) string {
	rec := "\x01" + number(16385, 4)
	for i := range 33 {
		rec += number(first+i, 2)
	}
	return rec
}

// 12.1: a thing that is longer than may be.
func TestHarmOfATooLongThing(t *testing.T) {
	for size, want := range map[int]api.Errno{16384: api.OK, 16385: api.ErrHarm} {
		rec := tooLongRec(3)
		if size == 16384 {
			rec = "\x01" + number(size, 4) + rec[5:69]
		}
		pages := map[int]string{0: padded("HOBJ\x01\x00\x01"), 1: padded(number(64*2+1, 4)), 2: padded(slotText([]*string{&rec}))}
		for i := range 33 {
			pages[3+i] = padded("")
		}
		if s, e := store.Open(spaceOf(t, pages)); e != want || (s == nil) != (want != api.OK) {
			t.Errorf("a thing of %d bytes: Open: %v, %d", size, s, e)
		}
	}
}

// use calls all that a store has, and asks that nothing panics; it tells the
// errors of calls of a number.
func use(t *testing.T, s *store.Store, n int) map[string]api.Errno {
	t.Helper()
	errors := map[string]api.Errno{}
	var data string
	data, errors["Get"] = s.Get(n)
	if data != "" && errors["Get"] != api.OK {
		t.Errorf("Get(%d): %d bytes beside %d", n, len(data), errors["Get"])
	}
	errors["Put"] = s.Put(n, "x")
	errors["Put long"] = s.Put(n, thing(1000, 1))
	errors["Drop"] = s.Drop(n)
	n, errors["Add"] = s.Add("")
	if n != 0 && errors["Add"] != api.OK {
		t.Errorf("Add: %d beside %d", n, errors["Add"])
	}
	return errors
}

// 12.2: of a store's space a page is harmed, or goes, while the store is
// used: who comes to it is told, and nothing changes.
func TestHarmWhileUsed(t *testing.T) {
	x := sound()
	pages := x.pages()
	// The record of 2 comes into the least page with records, that of 2 lies
	// there, too.
	for name, l := range map[string]int{"head": 0, "part": x.parts[0], "records": x.at[2][0], "bytes": x.long[2][1]} {
		for _, text := range []string{none, padded("\xff\xff"), changed(pages[l], 511, "\xff")} {
			if name == "bytes" && text != none {
				continue
			}
			sp := spaceOf(t, pages)
			s := open(t, sp)
			if text == none {
				do(t, "Drop", sp.Drop(l))
			} else {
				do(t, "Write", sp.Write(l, text))
			}
			was := pagesOf(t, sp)
			for call, e := range use(t, s, 2) {
				if e != api.ErrHarm && !(name == "bytes" && call == "Add") {
					t.Errorf("%s, %.8q: %s: %d", name, text, call, e)
				}
			}
			if name != "bytes" && !maps.Equal(pagesOf(t, sp), was) {
				t.Errorf("%s, %.8q: what was refused changed the space", name, text)
			}
			if e := s.Put(9000, ""); e != api.ErrNone {
				t.Errorf("%s: Put(9000): %d", name, e)
			}
			if e := s.Put(2, thing(16385, 0)); e != api.ErrLong {
				t.Errorf("%s: Put of 16,385 bytes: %d", name, e)
			}
			if n, e := s.Add(thing(16385, 0)); n != 0 || e != api.ErrLong {
				t.Errorf("%s: Add of 16,385 bytes: %d, %d", name, n, e)
			}
			want := api.OK
			if name == "head" {
				want = api.ErrHarm
			}
			if e := s.Clear(); e != want {
				t.Errorf("%s: Clear: %d", name, e)
			}
		}
	}
}

// 12.1, P1: any byte of a store's pages that is another one: Open refuses it,
// or it is a store, and then no call of it panics.
func TestAnyByteChanged(t *testing.T) {
	x := newPlain()
	for n, length := range []int{480, 3, 1000, 0} {
		x.add(thing(length, n))
	}
	pages := x.pages()
	sp := spaceOf(t, pages)
	seen := map[string]int{}
	for l, text := range pages {
		for i := range 512 {
			if i > 40 && i%37 > 0 {
				continue
			}
			for _, c := range []byte{text[i] + 1, text[i] - 1, text[i] ^ 0x80, 0, 1, 0xff} {
				sp.Abort()
				for range len(pages) {
					_, e := sp.Alloc()
					do(t, "Alloc", e)
				}
				for l, text := range pages {
					do(t, "Write", sp.Write(l, text))
				}
				do(t, "Write", sp.Write(l, changed(text, i, string([]byte{c}))))
				s, e := store.Open(sp)
				seen[fmt.Sprint(e)]++
				if e != api.OK {
					if e != api.ErrHarm || s != nil {
						t.Fatalf("the byte %d of the page %d is %d: Open: %v, %d", i, l, c, s, e)
					}
					continue
				}
				for n := range s.All() {
					if _, e := s.Get(n); e != api.OK {
						t.Fatalf("the byte %d of the page %d is %d: Get(%d): %d", i, l, c, n, e)
					}
				}
				use(t, s, 3)
				do(t, "Clear", s.Clear())
			}
		}
	}
	if seen["0"] == 0 || seen["13"] == 0 {
		t.Errorf("opened: %v", seen)
	}
}
