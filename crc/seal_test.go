package crc_test

import (
	"bytes"
	"math/rand"
	"testing"

	"hibernacle/crc"
)

// 2.2: what is sealed stands ahead of its sum, the sum's lowest byte first.
func TestSealExamples(t *testing.T) {
	for text, want := range map[string]string{"123456789": "123456789\x26\x39\xf4\xcb", "": "\x00\x00\x00\x00",
		"a": "a\x43\xbe\xb7\xe8", "\xff": "\xff\x00\x00\x00\xff"} {
		if got := crc.Seal([]byte(text)); string(got) != want {
			t.Errorf("Seal(%q) is %q, not %q", text, got, want)
		}
	}
	if got := crc.Seal(nil); string(got) != "\x00\x00\x00\x00" {
		t.Errorf("Seal(nil) is %q", got)
	}
}

// 2.2: what was sealed is opened, and is sealed to the same again.
func TestOpenOfSealed(t *testing.T) {
	for _, b := range texts() {
		sealed := crc.Seal(b)
		sum := crc.Sum(b)
		want := append(bytes.Clone(b), byte(sum), byte(sum>>8), byte(sum>>16), byte(sum>>24))
		if !bytes.Equal(sealed, want) {
			t.Errorf("%d bytes are sealed to %x", len(b), sealed)
		}
		if got, ok := crc.Open(sealed); !ok || !bytes.Equal(got, b) {
			t.Errorf("%d sealed bytes are opened to %x, %v", len(b), got, ok)
		}
	}
}

// 2.2: fewer than four bytes have no sum behind them.
func TestOpenOfFewBytes(t *testing.T) {
	for n := range 4 {
		for _, one := range []byte{0, 1, 0x41, 0xff} {
			if got, ok := crc.Open(bytes.Repeat([]byte{one}, n)); ok || got != nil {
				t.Errorf("%d bytes %d are opened to %v, %v", n, one, got, ok)
			}
		}
	}
	if got, ok := crc.Open(nil); ok || got != nil {
		t.Errorf("Open(nil) is %v, %v", got, ok)
	}
}

// 2.2: four bytes are the sum of nothing, or of nothing at all.
func TestOpenOfFourBytes(t *testing.T) {
	if got, ok := crc.Open(make([]byte, 4)); !ok || len(got) != 0 {
		t.Errorf("four bytes 0 are opened to %v, %v", got, ok)
	}
	for _, b := range [][]byte{{1, 0, 0, 0}, {0, 1, 0, 0}, {0, 0, 1, 0}, {0, 0, 0, 1}, {0, 0, 0, 128},
		{255, 255, 255, 255}, []byte("abcd")} {
		if got, ok := crc.Open(b); ok || got != nil {
			t.Errorf("%v is opened to %v, %v", b, got, ok)
		}
	}
}

// 2.2: bytes that weren't sealed, a sum of other bytes, and a sum whose bytes
// stand in another order.
func TestOpenOfOtherBytes(t *testing.T) {
	sealed := crc.Seal([]byte("123456789"))
	for _, b := range [][]byte{
		[]byte("123456789"),
		[]byte("123456789\xcb\xf4\x39\x26"),
		[]byte("12345678\x26\x39\xf4\xcb"),
		[]byte("a123456789\x26\x39\xf4\xcb"),
		[]byte("123456789\xd9\xc6\x0b\x34"),
		append(bytes.Clone(sealed), 0),
		sealed[1:],
		sealed[:len(sealed)-1],
		make([]byte, 5),
		bytes.Repeat([]byte{0xff}, 7),
	} {
		if got, ok := crc.Open(b); ok || got != nil {
			t.Errorf("%q is opened to %q, %v", b, got, ok)
		}
	}
}

// 2.2: what is behind the last four bytes in their memory isn't looked at.
func TestOpenWithinMore(t *testing.T) {
	b := append(crc.Seal([]byte("ab")), "behind"...)
	if got, ok := crc.Open(b[:6]); !ok || string(got) != "ab" {
		t.Errorf("opened: %q, %v", got, ok)
	}
}

// flip turns the bits of b from the bit 'from' on that are 1 in mask, by
// bytes, in each the lowest first; false if mask goes past the last of them.
func flip(b []byte, from int, mask uint32) ([]byte, bool) {
	b = bytes.Clone(b)
	for i := range 32 {
		if mask>>i&1 == 0 {
			continue
		}
		at := from + i
		if at >= 8*len(b) {
			return nil, false
		}
		b[at/8] ^= 1 << (at % 8)
	}
	return b, true
}

// masks are rows of turned bits within 32 that begin with one that is turned:
// all of up to ten bits, the ends alone of each width, all of each width, and
// some that are mixed.
func masks() []uint32 {
	var all []uint32
	for low := uint32(1); low < 1<<10; low += 2 {
		all = append(all, low)
	}
	row := rand.New(rand.NewSource(23))
	for width := 11; width <= 32; width++ {
		ends := uint32(1) | 1<<(width-1)
		all = append(all, ends, 1<<width-1)
		for range 20 {
			all = append(all, ends|row.Uint32()&(1<<width-1))
		}
	}
	return append(all, 0xedb88320|1, 0xffffffff)
}

// 2.3: bits that were turned within 32 that stand side by side are told, in
// the bytes and in their sum and where these meet.
func TestTurnedBitsAreNotOpened(t *testing.T) {
	for _, b := range [][]byte{nil, {0}, []byte("ab"), []byte("123456789"), make([]byte, 12), mixed(40)} {
		sealed := crc.Seal(b)
		for from := range 8 * len(sealed) {
			for _, mask := range masks() {
				harmed, ok := flip(sealed, from, mask)
				if !ok {
					continue
				}
				if got, opened := crc.Open(harmed); opened || got != nil {
					t.Fatalf("%d bytes with the bits %#x turned from %d on are opened to %x", len(b), mask, from, got)
				}
			}
		}
	}
}

// 2.3: each bit of a long text by itself.
func TestEachBitOfALongText(t *testing.T) {
	sealed := crc.Seal(mixed(512))
	for at := range 8 * len(sealed) {
		sealed[at/8] ^= 1 << (at % 8)
		if got, ok := crc.Open(sealed); ok || got != nil {
			t.Fatalf("with the bit %d turned it is opened", at)
		}
		sealed[at/8] ^= 1 << (at % 8)
	}
	if _, ok := crc.Open(sealed); !ok {
		t.Fatal("with all its bits turned back it isn't opened")
	}
}

// 2.2: Seal changes neither its bytes nor what lies behind them, and what it
// tells is new memory.
func TestSealSharesNothing(t *testing.T) {
	room := []byte("ab......")
	sealed := crc.Seal(room[:2])
	again := crc.Seal(room[:2])
	if string(room) != "ab......" {
		t.Fatalf("Seal made %q of its bytes and what lies behind them", room)
	}
	want := bytes.Clone(sealed)
	room[0] = 'x'
	for i := range again {
		again[i] ^= 0xff
	}
	_ = append(again, 'x')
	if !bytes.Equal(sealed, want) {
		t.Errorf("what was sealed shares memory: %q", sealed)
	}
	sealed[1] = 'y'
	if string(room) != "xb......" {
		t.Errorf("the bytes share memory with what was sealed: %q", room)
	}
}

// 2.2: Open changes nothing, and what it tells is new memory with no room
// behind it.
func TestOpenSharesNothing(t *testing.T) {
	for _, n := range []int{0, 1, 5, 512} {
		sealed := crc.Seal(mixed(n))
		kept := bytes.Clone(sealed)
		one, _ := crc.Open(sealed)
		other, _ := crc.Open(sealed)
		if cap(one) != n || cap(other) != n {
			t.Errorf("%d bytes are told with room for %d and %d", n, cap(one), cap(other))
		}
		for i := range one {
			one[i] ^= 0xff
		}
		_ = append(one, "behind"...)
		if !bytes.Equal(sealed, kept) || !bytes.Equal(other, kept[:n]) {
			t.Errorf("what was opened of %d bytes shares memory", n)
		}
		for i := range sealed {
			sealed[i] ^= 0xff
		}
		if !bytes.Equal(other, kept[:n]) {
			t.Errorf("what was opened of %d bytes hangs on the sealed ones", n)
		}
	}
	harmed := []byte("123456789")
	crc.Open(harmed)
	if string(harmed) != "123456789" {
		t.Errorf("Open made %q of what it refused", harmed)
	}
}
