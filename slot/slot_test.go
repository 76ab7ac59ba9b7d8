package slot_test

import (
	"strings"
	"testing"

	"hibernacle/api"
	"hibernacle/slot"
)

// The chapter's example.
func TestExample(t *testing.T) {
	p := slot.New()
	if i, e := p.Add("ab"); i != 0 || e != api.OK {
		t.Fatalf("Add: %d, %d", i, e)
	}
	if got, want := p.Bytes(), "\x01\x00\x03ab"+strings.Repeat("\x00", 507); got != want {
		t.Fatalf("Bytes: %q", got)
	}
	if p.Room() != 480 {
		t.Fatalf("Room: %d", p.Room())
	}
}

// 9.1, 9.2: New has no slots; each is a page by itself.
func TestNew(t *testing.T) {
	p, q := slot.New(), slot.New()
	check(t, "a new page", p, nil)
	p.Add("ab")
	check(t, "a new page beside another one", q, nil)
	check(t, "a page of one record", p, slotsOf().with(0, "ab"))
}

// 9.1, 9.2: what pages that are empty, full and between tell.
func TestPages(t *testing.T) {
	for _, x := range plains() {
		check(t, "a page", pageOf(t, x), x)
	}
}

// 9.1: slots' sizes are told by two bytes, the higher first, and are one more
// than the records' lengths.
func TestSizes(t *testing.T) {
	for n, want := range map[int]string{0: "\x00\x01", 1: "\x00\x02", 254: "\x00\xff", 255: "\x01\x00", 256: "\x01\x01", 480: "\x01\xe1"} {
		p := slot.New()
		p.Add(text(n))
		if got := p.Bytes()[:3]; got != "\x01"+want {
			t.Errorf("a record of %d bytes: %q", n, got)
		}
	}
	p := slot.New()
	p.Add("a")
	p.Add("b")
	p.Drop(0)
	if got := p.Bytes()[:6]; got != "\x02\x00\x00\x00\x02b" {
		t.Errorf("a bare slot ahead of one with a record: %q", got)
	}
}

// 9.2: Drop tells whether there was a record, and has the slot bare; bare ones
// at the end are there no more.
func TestDrop(t *testing.T) {
	for _, x := range plains() {
		for _, i := range places() {
			p, y := pageOf(t, x), x
			if got, want := p.Drop(i), y.drop(i); got != want {
				t.Fatalf("Drop(%d) of %d slots: %v", i, len(x), got)
			}
			if p.Drop(i) {
				t.Fatalf("Drop(%d) once more: true", i)
			}
			check(t, "a page behind a Drop", p, y)
		}
	}
}

// 9.2: the last slot that is dropped takes the bare ones ahead of it along.
func TestDropOfLast(t *testing.T) {
	p := pageOf(t, slotsOf(2, -1, -1, 3, -1, 4))
	for _, step := range []struct{ i, len int }{{5, 4}, {3, 1}, {0, 0}} {
		if !p.Drop(step.i) || p.Len() != step.len {
			t.Fatalf("behind Drop(%d): %d slots", step.i, p.Len())
		}
	}
	check(t, "a page that is empty again", p, nil)
	p = pageOf(t, slotsOf(row(64, 3)...))
	for i := range 63 {
		if !p.Drop(i) || p.Len() != 64 {
			t.Fatalf("behind Drop(%d): %d slots", i, p.Len())
		}
	}
	if !p.Drop(63) || p.Len() != 0 || p.Room() != 480 {
		t.Fatalf("behind the last Drop: %d slots", p.Len())
	}
}

// 9.2, P1: every call on a nil page.
func TestNil(t *testing.T) {
	var p *slot.Page
	if p.Bytes() != "" || p.Len() != 0 || p.Room() != -1 {
		t.Errorf("Bytes, Len, Room: %q, %d, %d", p.Bytes(), p.Len(), p.Room())
	}
	for _, i := range places() {
		if rec, full := p.Get(i); rec != "" || full || p.Drop(i) {
			t.Errorf("Get(%d), Drop: %q, %v", i, rec, full)
		}
		for _, rec := range []string{"", "a", text(480), text(481)} {
			if e := p.Put(i, rec); e != api.ErrArg {
				t.Errorf("Put(%d) of %d bytes: %d", i, len(rec), e)
			}
		}
	}
	for _, rec := range []string{"", "a", text(480), text(481)} {
		if i, e := p.Add(rec); i != 0 || e != api.ErrArg {
			t.Errorf("Add of %d bytes: %d, %d", len(rec), i, e)
		}
	}
	for i, rec := range p.All() {
		t.Errorf("All: %d, %q", i, rec)
	}
}
