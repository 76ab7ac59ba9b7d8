package slot_test

import (
	"slices"
	"testing"

	"hibernacle/api"
	"hibernacle/slot"
)

// lengths are lengths of records, at all edges, and around those that just
// fit.
func lengths(fits int) []int {
	list := []int{0, 1, 2, 100, 254, 255, 256, 479, 480, 481, 482, 511, 512, 513}
	for n := max(fits-3, 0); n < fits+4; n++ {
		list = append(list, n)
	}
	return list
}

// 9.2: Add of records of all lengths, to pages that are empty, full and
// between; what is refused changes nothing.
func TestAdd(t *testing.T) {
	for _, x := range plains() {
		for _, n := range lengths(x.room()) {
			p, y := pageOf(t, x), x
			i, e := p.Add(text(n))
			if want, is := y.add(text(n)); i != want || e != is {
				t.Fatalf("Add of %d bytes: %d, %d, not %d, %d", n, i, e, want, is)
			}
			check(t, "a page behind an Add", p, y)
		}
	}
}

// 9.2: what Add tells, by hand.
func TestAddByHand(t *testing.T) {
	for _, c := range []struct {
		name   string
		has    plain
		length int
		i      int
		e      api.Errno
	}{
		{"an empty record into an empty page", nil, 0, 0, api.OK},
		{"the longest record", nil, 480, 0, api.OK},
		{"a longer one", nil, 481, 0, api.ErrLong},
		{"a long one into a full page", slotsOf(480, 27), 481, 0, api.ErrLong},
		{"a long one into 64 slots", slotsOf(row(64, 0)...), 481, 0, api.ErrLong},
		{"an empty one into a full page", slotsOf(480, 27), 0, 0, api.ErrFull},
		{"an empty one where a byte is left", slotsOf(480, 26), 0, 0, api.ErrFull},
		{"an empty one where two bytes are left", slotsOf(480, 25), 0, 2, api.OK},
		{"one of a byte where two are left", slotsOf(480, 25), 1, 0, api.ErrFull},
		{"an empty one into 64 slots", slotsOf(row(64, 0)...), 0, 0, api.ErrFull},
		{"the 64th slot", slotsOf(row(63, 0)...), 9, 63, api.OK},
		{"the least bare slot", slotsOf(0, -1, 0, -1, 0), 9, 1, api.OK},
		{"a bare slot of a full page", slotsOf(480, -1, 25), 0, 1, api.OK},
		{"a byte more than a bare slot's room", slotsOf(480, -1, 24), 2, 0, api.ErrFull},
		{"just a bare slot's room", slotsOf(480, -1, 24), 1, 1, api.OK},
		{"the one bare slot of 64", slotsOf(append(append(row(40, 0), -1), row(23, 0)...)...), 9, 40, api.OK},
	} {
		i, e := pageOf(t, c.has).Add(text(c.length))
		if i != c.i || e != c.e {
			t.Errorf("%s: %d, %d, not %d, %d", c.name, i, e, c.i, c.e)
		}
	}
}

// 9.2: records come into one slot behind the other till there are 64, and
// then where one was dropped, the least first.
func TestAddTill64(t *testing.T) {
	for _, n := range []int{0, 1, 5} {
		p := slot.New()
		for i := range 64 {
			if got, e := p.Add(text(n)); got != i || e != api.OK || p.Len() != i+1 {
				t.Fatalf("Add %d: %d, %d", i, got, e)
			}
		}
		refused := func() {
			if i, e := p.Add(""); i != 0 || e != api.ErrFull || p.Room() != -1 || p.Len() != 64 {
				t.Fatalf("Add to 64 slots: %d, %d", i, e)
			}
		}
		refused()
		for _, i := range []int{40, 7, 62, 0} {
			p.Drop(i)
		}
		for _, i := range []int{0, 7, 40, 62} {
			if got, e := p.Add(text(n)); got != i || e != api.OK {
				t.Fatalf("Add behind a Drop of %d: %d, %d", i, got, e)
			}
		}
		refused()
		p.Drop(63)
		if got, e := p.Add(text(n)); got != 63 || e != api.OK {
			t.Fatalf("Add behind a Drop of the last: %d, %d", got, e)
		}
		refused()
	}
}

// 9.2: Put of records of all lengths into all slots of pages that are empty,
// full and between; a refused one keeps what there was.
func TestPut(t *testing.T) {
	for _, x := range plains() {
		for _, i := range places() {
			was, _ := x.get(i)
			fits := 512 - len(x.raw()) + len(was)
			for _, n := range lengths(fits) {
				p, y := pageOf(t, x), x
				if got, want := p.Put(i, text(n)), y.put(i, text(n)); got != want {
					t.Fatalf("Put(%d) of %d bytes: %d, not %d", i, n, got, want)
				}
				if got, want := p.Bytes(), y.bytes(); got != want {
					t.Fatalf("Bytes behind Put(%d) of %d bytes: %q, not %q", i, n, got, want)
				}
			}
		}
	}
}

// 9.2: what Put tells, by hand.
func TestPutByHand(t *testing.T) {
	for _, c := range []struct {
		name   string
		has    plain
		i      int
		length int
		e      api.Errno
	}{
		{"no slot", nil, 0, 0, api.ErrNone},
		{"a slot below 0", slotsOf(1), -1, 0, api.ErrNone},
		{"a slot behind the last", slotsOf(1), 1, 0, api.ErrNone},
		{"a slot behind all that may be", slotsOf(row(64, 0)...), 64, 0, api.ErrNone},
		{"a bare slot", slotsOf(-1, 1), 0, 0, api.ErrNone},
		{"a long record into no slot", slotsOf(1), 1, 481, api.ErrNone},
		{"a long record into a bare slot", slotsOf(-1, 1), 0, 481, api.ErrNone},
		{"a long record", slotsOf(1), 0, 481, api.ErrLong},
		{"a long record into a full page", slotsOf(480, 27), 0, 481, api.ErrLong},
		{"the longest record", slotsOf(1), 0, 480, api.OK},
		{"an empty record", slotsOf(1), 0, 0, api.OK},
		{"one of the same length into a full page", slotsOf(480, 27), 1, 27, api.OK},
		{"one of a byte more", slotsOf(480, 27), 1, 28, api.ErrFull},
		{"a byte that is left", slotsOf(480, 26), 1, 27, api.OK},
		{"two of one that is left", slotsOf(480, 26), 1, 28, api.ErrFull},
		{"the last of 64 slots", slotsOf(row(64, 0)...), 63, 383, api.OK},
		{"a byte more into the last of 64 slots", slotsOf(row(64, 0)...), 63, 384, api.ErrFull},
	} {
		p := pageOf(t, c.has)
		if e := p.Put(c.i, text(c.length)); e != c.e {
			t.Errorf("%s: %d, not %d", c.name, e, c.e)
			continue
		}
		if c.e != api.OK {
			check(t, "a page behind "+c.name, p, c.has)
		} else if rec, full := p.Get(c.i); rec != text(c.length) || !full {
			t.Errorf("%s: Get: %q, %v", c.name, rec, full)
		}
	}
}

// 9.2: records that are longer by far.
func TestFarTooLong(t *testing.T) {
	for _, n := range []int{1 << 16, 1<<16 + 1, 1<<16 + 480, 1 << 20} {
		p := pageOf(t, slotsOf(3))
		if i, e := p.Add(text(n)); i != 0 || e != api.ErrLong {
			t.Errorf("Add of %d bytes: %d, %d", n, i, e)
		}
		if e := p.Put(0, text(n)); e != api.ErrLong {
			t.Errorf("Put of %d bytes: %d", n, e)
		}
		if e := p.Put(1, text(n)); e != api.ErrNone {
			t.Errorf("Put of %d bytes into no slot: %d", n, e)
		}
		check(t, "a page behind records that were too long", p, slotsOf(3))
	}
}

// 9.2: an empty record isn't a bare slot.
func TestEmptyRecord(t *testing.T) {
	p := slot.New()
	p.Add("")
	p.Add("a")
	if e := p.Put(1, ""); e != api.OK {
		t.Fatalf("Put: %d", e)
	}
	if p.Len() != 2 || !slices.Equal(allOf(p), []told{{0, ""}, {1, ""}}) {
		t.Fatalf("%d slots, %v", p.Len(), allOf(p))
	}
	if i, e := p.Add("b"); i != 2 || e != api.OK {
		t.Fatalf("Add: %d, %d", i, e)
	}
	if !p.Drop(0) || p.Drop(0) || !p.Drop(1) {
		t.Fatal("Drop of empty records")
	}
	if i, e := p.Add("c"); i != 0 || e != api.OK {
		t.Fatalf("Add behind a Drop: %d, %d", i, e)
	}
}

// 9.2: Room, by hand.
func TestRoom(t *testing.T) {
	for _, c := range []struct {
		name string
		has  plain
		room int
	}{
		{"an empty page", nil, 480},
		{"one record of two bytes", slotsOf(2), 480},
		{"where just 480 bytes are left", slotsOf(27), 480},
		{"a byte less", slotsOf(28), 479},
		{"a full page", slotsOf(480, 27), -1},
		{"a byte that is left", slotsOf(480, 26), -1},
		{"two bytes that are left", slotsOf(480, 25), 0},
		{"three bytes that are left", slotsOf(480, 24), 1},
		{"a bare slot in a full page", slotsOf(480, -1, 25), 0},
		{"a bare slot and a byte", slotsOf(480, -1, 24), 1},
		{"a bare slot and two bytes", slotsOf(480, -1, 23), 2},
		{"bare slots", slotsOf(-1, -1, -1, 1), 480},
		{"63 bare slots", slotsOf(append(row(63, -1), 0)...), 383},
		{"64 slots", slotsOf(row(64, 0)...), -1},
		{"64 slots of which one is bare", slotsOf(append([]int{-1}, row(63, 0)...)...), 383},
		{"64 slots of which one is bare, in a full page", slotsOf(append([]int{-1, 383}, row(62, 0)...)...), 0},
		{"63 slots", slotsOf(row(63, 0)...), 383},
	} {
		if got := pageOf(t, c.has).Room(); got != c.room {
			t.Errorf("%s: %d, not %d", c.name, got, c.room)
		}
	}
}
