package crc_test

import (
	"bytes"
	"hash/crc32"
	"math/rand"
	"testing"

	"hibernacle/crc"
)

// mixed is n bytes of a fixed row in which every byte comes about as often as
// any other.
func mixed(n int) []byte {
	b := make([]byte, n)
	rand.New(rand.NewSource(int64(n) + 1)).Read(b)
	return b
}

// texts are bytes of many lengths: none, one, some, more than a page.
func texts() [][]byte {
	all := [][]byte{nil, {}, []byte("a"), []byte("123456789"), make([]byte, 1), make([]byte, 600),
		bytes.Repeat([]byte{0xff}, 600)}
	for n := range 70 {
		all = append(all, mixed(n))
	}
	for _, n := range []int{127, 128, 129, 511, 512, 513, 4096, 100_003} {
		all = append(all, mixed(n))
	}
	return all
}

// pieces is b in pieces of the lengths that a fixed row tells, empty ones
// among them.
func pieces(b []byte, seed int64) [][]byte {
	row := rand.New(rand.NewSource(seed))
	all := [][]byte{nil}
	for len(b) > 0 {
		n := min(row.Intn(5)*row.Intn(40), len(b))
		all = append(all, b[:n])
		b = b[n:]
	}
	return append(all, []byte{})
}

// byWords is the sum as the chapter's words tell it.
func byWords(b []byte) uint32 {
	register := uint32(1<<32 - 1)
	for _, one := range b {
		register = register&^0xff | uint32(byte(register)^one)
		for range 8 {
			if register%2 == 1 {
				register = register/2 ^ 0xedb88320
			} else {
				register /= 2
			}
		}
	}
	return 1<<32 - 1 - register
}

// 2.1: the chapter's examples.
func TestSumExamples(t *testing.T) {
	for text, want := range map[string]uint32{"123456789": 0xcbf43926, "": 0, "a": 0xe8b7be43, "\x00": 0xd202ef8d,
		"\xff": 0xff000000, "\x00\x00\x00\x00": 0x2144df1c, "\xff\xff\xff\xff": 0xffffffff} {
		if got := crc.Sum([]byte(text)); got != want {
			t.Errorf("Sum(%q) is %#x, not %#x", text, got, want)
		}
	}
	if got := crc.Sum(nil); got != 0 {
		t.Errorf("Sum(nil) is %#x", got)
	}
}

// 2.1: one byte of each value.
func TestSumOfOneByte(t *testing.T) {
	seen := map[uint32]int{}
	for one := range 256 {
		b := []byte{byte(one)}
		got := crc.Sum(b)
		if got != byWords(b) || got != crc32.ChecksumIEEE(b) {
			t.Errorf("Sum of the byte %d is %#x, not %#x", one, got, byWords(b))
		}
		if other, twice := seen[got]; twice {
			t.Errorf("the bytes %d and %d have one sum", one, other)
		}
		seen[got] = one
	}
}

// 2.1: texts of many lengths.
func TestSumOfTexts(t *testing.T) {
	for _, b := range texts() {
		if got := crc.Sum(b); got != byWords(b) || got != crc32.ChecksumIEEE(b) {
			t.Errorf("Sum of %d bytes is %#x, not %#x", len(b), got, byWords(b))
		}
	}
}

// 2.1: More behind a sum of nothing, and behind a sum of something.
func TestMore(t *testing.T) {
	for _, b := range texts() {
		if got := crc.More(0, b); got != crc.Sum(b) {
			t.Errorf("More behind nothing, of %d bytes, is %#x, not %#x", len(b), got, crc.Sum(b))
		}
		if got := crc.More(crc.Sum(b), nil); got != crc.Sum(b) {
			t.Errorf("More of nothing behind %d bytes is %#x, not %#x", len(b), got, crc.Sum(b))
		}
		for _, ahead := range [][]byte{{0}, []byte("12345"), mixed(200)} {
			whole := append(bytes.Clone(ahead), b...)
			if got := crc.More(crc.Sum(ahead), b); got != byWords(whole) {
				t.Errorf("More of %d bytes behind %d is %#x, not %#x", len(b), len(ahead), got, byWords(whole))
			}
		}
	}
}

// 2.1: any number is the sum of something, so More goes on behind any.
func TestMoreBehindAnyNumber(t *testing.T) {
	for _, sum := range []uint32{0, 1, 0x7fffffff, 0x80000000, 0xdeadbeef, 0xffffffff} {
		for _, b := range [][]byte{nil, {0}, {0xff}, mixed(33)} {
			if got, want := crc.More(sum, b), crc32.Update(sum, crc32.IEEETable, b); got != want {
				t.Errorf("More(%#x, %d bytes) is %#x, not %#x", sum, len(b), got, want)
			}
		}
	}
}

// 2.1, 2.3: a register tells the sum of all that was taken so far, and goes on.
func TestRegisterInPieces(t *testing.T) {
	for i, b := range texts() {
		r, quiet, sum, taken := crc.New(), crc.New(), uint32(0), 0
		for _, piece := range pieces(b, int64(i)) {
			r.Take(piece)
			quiet.Take(piece)
			sum = crc.More(sum, piece)
			taken += len(piece)
			want := crc.Sum(b[:taken])
			if r.Sum() != want || r.Sum() != want || sum != want {
				t.Fatalf("behind %d of %d bytes: Sum %#x, More %#x, not %#x", taken, len(b), r.Sum(), sum, want)
			}
		}
		if taken != len(b) || quiet.Sum() != byWords(b) {
			t.Errorf("%d bytes in pieces, asked at their end alone: %#x, not %#x", len(b), quiet.Sum(), byWords(b))
		}
	}
}

// 2.1: a register at first is one of nothing, and has nothing of another.
func TestRegisterAtFirst(t *testing.T) {
	if got := crc.New().Sum(); got != 0 {
		t.Errorf("at first the sum is %#x", got)
	}
	one, other := crc.New(), crc.New()
	if one == nil || one == other {
		t.Fatal("two registers are one")
	}
	one.Take([]byte("123"))
	other.Take([]byte("a"))
	one.Take([]byte("456789"))
	if one.Sum() != 0xcbf43926 || other.Sum() != 0xe8b7be43 {
		t.Errorf("two registers: %#x and %#x", one.Sum(), other.Sum())
	}
	if got := crc.New().Sum(); got != 0 {
		t.Errorf("a later register at first has the sum %#x", got)
	}
}

// 2.1: a nil register.
func TestNilRegister(t *testing.T) {
	var none *crc.Register
	none.Take(nil)
	none.Take([]byte("123456789"))
	if got := none.Sum(); got != 0 {
		t.Errorf("the sum of a nil register is %#x", got)
	}
}

// 2.1: what a register took isn't kept, so a change behind Take tells nothing.
func TestTakenBytesAreNotKept(t *testing.T) {
	b := []byte("123456789")
	r := crc.New()
	r.Take(b)
	if string(b) != "123456789" {
		t.Errorf("Take made %q of its bytes", b)
	}
	b[0] = 'x'
	if r.Sum() != 0xcbf43926 {
		t.Errorf("behind a change of what was taken the sum is %#x", r.Sum())
	}
}

// 2.1: neither Sum nor More changes its bytes, nor what lies behind them.
func TestSumChangesNothing(t *testing.T) {
	b := []byte("123456789")
	crc.Sum(b[:4])
	crc.More(7, b[:4])
	if string(b) != "123456789" {
		t.Errorf("the bytes are %q", b)
	}
}
