package slot_test

import (
	"strings"
	"testing"

	"hibernacle/api"
	"hibernacle/slot"
)

// parsed asks that bytes are parsed, or refused, as the chapter's words say.
func parsed(t *testing.T, what, b string) {
	t.Helper()
	x, want := plainOf(b)
	p, e := slot.Parse(b)
	if e != want || (p == nil) != (want != api.OK) {
		t.Fatalf("Parse of %s: %v, %d, not %d", what, p, e, want)
	}
	if e == api.OK {
		check(t, what, p, x)
	}
}

// padded is 512 bytes that begin so.
func padded(b string) string {
	return b + strings.Repeat("\x00", 512-len(b))
}

// 9.1: what Parse tells, by hand.
func TestParseByHand(t *testing.T) {
	zeros := strings.Repeat("\x00", 2000)
	bare := strings.Repeat("\x00\x00", 63)
	for _, c := range []struct {
		name string
		b    string
		e    api.Errno
	}{
		{"no bytes", "", api.ErrEnd},
		{"one byte", "\x01", api.ErrEnd},
		{"511 zeros", zeros[:511], api.ErrEnd},
		{"511 bytes of no page", "\xff" + zeros[:510], api.ErrEnd},
		{"512 zeros", zeros[:512], api.OK},
		{"513 zeros", zeros[:513], api.ErrLong},
		{"513 bytes of no page", "\xff" + zeros[:512], api.ErrLong},
		{"1024 zeros", zeros[:1024], api.ErrLong},
		{"an empty record", padded("\x01\x00\x01"), api.OK},
		{"a slot that is bare", padded("\x01\x00\x00"), api.ErrForm},
		{"a last slot that is bare", padded("\x02\x00\x03\x00\x00ab"), api.ErrForm},
		{"a first slot that is bare", padded("\x02\x00\x00\x00\x03ab"), api.OK},
		{"63 bare slots and one more", padded("\x40" + bare + "\x00\x03ab"), api.OK},
		{"64 bare slots and one more", padded("\x41\x00\x00" + bare + "\x00\x03ab"), api.ErrForm},
		{"64 empty records", padded("\x40" + strings.Repeat("\x00\x01", 64)), api.OK},
		{"65 empty records", padded("\x41" + strings.Repeat("\x00\x01", 65)), api.ErrForm},
		{"255 empty records", padded("\xff" + strings.Repeat("\x00\x01", 255)), api.ErrForm},
		{"255 slots", padded("\xff"), api.ErrForm},
		{"a record of 480 bytes", padded("\x01\x01\xe1" + text(480)), api.OK},
		{"a record of 480 zeros", padded("\x01\x01\xe1"), api.OK},
		{"a record of 481 bytes", padded("\x01\x01\xe2" + text(481)), api.ErrForm},
		{"a record of 481 zeros", padded("\x01\x01\xe2"), api.ErrForm},
		{"a record of 509 bytes", padded("\x01\x01\xfe" + text(509)), api.ErrForm},
		{"a record of 65534 bytes", padded("\x01\xff\xff"), api.ErrForm},
		{"records of 512 bytes in all", padded("\x02\x01\xe1\x00\x1c" + text(507)), api.OK},
		{"records of 513 bytes in all", padded("\x02\x01\xe1\x00\x1d" + text(507)), api.ErrForm},
		{"records of 513 bytes in all, the long one last", padded("\x02\x00\x1d\x01\xe1" + text(507)), api.ErrForm},
		{"an empty record behind a full page", padded("\x03\x01\xe1\x00\x1a\x00\x01" + text(505)), api.OK},
		{"a record of one byte behind a full page", padded("\x03\x01\xe1\x00\x1a\x00\x02" + text(505)), api.ErrForm},
		{"bytes that aren't zeros behind no slots", padded("\x00\x00\x01"), api.ErrForm},
		{"a byte that isn't zero at the end", padded("\x01\x00\x03ab")[:511] + "\x01", api.ErrForm},
		{"a byte that isn't zero right behind the records", padded("\x01\x00\x03abc"), api.ErrForm},
		{"a record of zeros", padded("\x01\x00\x03"), api.OK},
	} {
		if p, e := slot.Parse(c.b); e != c.e || (p == nil) != (c.e != api.OK) {
			t.Errorf("%s: %v, %d, not %d", c.name, p, e, c.e)
			continue
		}
		parsed(t, c.name, c.b)
	}
}

// 9.1: bytes of any length, of pages and of none.
func TestParseLengths(t *testing.T) {
	for _, x := range plains() {
		long := x.bytes() + x.bytes() + "\x00"
		for n := range len(long) + 1 {
			parsed(t, "bytes of some length", long[:n])
		}
	}
}

// 9.1: pages' bytes, each changed at every place.
func TestParseChanged(t *testing.T) {
	for _, x := range plains() {
		b := []byte(x.bytes())
		for i, was := range b {
			for _, c := range []byte{0, 1, 2, 63, 64, 65, 128, was - 1, was + 1, was ^ 255, 224, 225, 226, 255} {
				b[i] = c
				want, e := plainOf(string(b))
				p, got := slot.Parse(string(b))
				if got != e || e == api.OK && p.Bytes() != want.bytes() {
					t.Fatalf("Parse with a byte %d at %d: %d, not %d", c, i, got, e)
				}
			}
			b[i] = was
		}
	}
}

// 9.1, 9.3: a page is parsed of its bytes, and goes on as it.
func TestParseOfBytes(t *testing.T) {
	for _, x := range plains() {
		p := pageOf(t, x)
		b := p.Bytes()
		q, e := slot.Parse(b)
		if e != api.OK {
			t.Fatalf("Parse of a page's bytes: %d", e)
		}
		check(t, "a page of a page's bytes", q, x)
		y := x
		for _, n := range []int{0, 7, 300, 481} {
			i, e := q.Add(text(n))
			if want, is := y.add(text(n)); i != want || e != is {
				t.Fatalf("Add to a page of bytes: %d, %d, not %d, %d", i, e, want, is)
			}
		}
		for i := range 64 {
			if got, want := q.Drop(i), y.drop(i); got != want {
				t.Fatalf("Drop(%d) of a page of bytes: %v", i, got)
			}
			check(t, "a page of bytes behind changes", q, y)
		}
		check(t, "a page whose bytes another one was made of", p, x)
		if p.Bytes() != b {
			t.Fatal("what Bytes told has changed")
		}
	}
}
