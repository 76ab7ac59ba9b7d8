package enc_test

import (
	"bytes"
	"math"
	"math/big"
	"math/rand"
	"testing"

	"hibernacle/enc"
)

const (
	least    = math.MinInt
	greatest = math.MaxInt
)

// edges are whole numbers around which something turns: the ends of the
// range, and where a count or a doubled size takes one byte more.
func edges() []int {
	list := []int{least, least + 1, least / 2, greatest, greatest - 1, greatest / 2, 300, -300}
	for n := -3; n <= 3; n++ {
		list = append(list, n)
	}
	for bit := range 63 {
		for near := -1; near <= 1; near++ {
			list = append(list, 1<<bit+near, -(1<<bit)+near)
		}
	}
	return list
}

// mixed is n bytes of a fixed row.
func mixed(n int) []byte {
	b := make([]byte, n)
	rand.New(rand.NewSource(int64(n) + 3)).Read(b)
	return b
}

// byWords are the bytes of a number above or at 0, as the chapter's words
// tell them.
func byWords(n *big.Int) []byte {
	seven, digit := big.NewInt(128), new(big.Int)
	n = new(big.Int).Set(n)
	var b []byte
	for {
		n.DivMod(n, seven, digit)
		if n.Sign() == 0 {
			return append(b, byte(digit.Int64()))
		}
		b = append(b, byte(digit.Int64())+128)
	}
}

func countByWords(n int) []byte {
	return byWords(big.NewInt(int64(max(n, 0))))
}

func wholeByWords(n int) []byte {
	size := new(big.Int).Mul(big.NewInt(int64(n)), big.NewInt(2))
	if n < 0 {
		size.Neg(size).Sub(size, big.NewInt(1))
	}
	return byWords(size)
}

// filled is n bytes 255 with some others behind them.
func filled(n int, behind ...byte) []byte {
	return append(bytes.Repeat([]byte{255}, n), behind...)
}

// 3.1: counts, by hand; of one below 0 the bytes are those of 0.
func TestCountByHand(t *testing.T) {
	rows := []struct {
		n    int
		want []byte
	}{
		{0, []byte{0}},
		{1, []byte{1}},
		{127, []byte{127}},
		{128, []byte{128, 1}},
		{300, []byte{172, 2}},
		{16383, []byte{255, 127}},
		{16384, []byte{128, 128, 1}},
		{1 << 62, append(bytes.Repeat([]byte{128}, 8), 64)},
		{greatest, filled(8, 127)},
		{-1, []byte{0}},
		{-300, []byte{0}},
		{least, []byte{0}},
	}
	for _, r := range rows {
		if got := enc.Count(nil, r.n); !bytes.Equal(got, r.want) {
			t.Errorf("Count(nil, %d): %v, asked for %v", r.n, got, r.want)
		}
	}
}

// 3.1: whole numbers, by hand.
func TestWholeByHand(t *testing.T) {
	rows := []struct {
		n    int
		want []byte
	}{
		{0, []byte{0}},
		{-1, []byte{1}},
		{1, []byte{2}},
		{-2, []byte{3}},
		{63, []byte{126}},
		{-64, []byte{127}},
		{64, []byte{128, 1}},
		{-65, []byte{129, 1}},
		{150, []byte{172, 2}},
		{1<<62 - 1, append([]byte{254}, filled(7, 127)...)},
		{-1 << 62, filled(8, 127)},
		{1 << 62, append(bytes.Repeat([]byte{128}, 9), 1)},
		{greatest, append([]byte{254}, filled(8, 1)...)},
		{least, filled(9, 1)},
	}
	for _, r := range rows {
		if got := enc.Whole(nil, r.n); !bytes.Equal(got, r.want) {
			t.Errorf("Whole(nil, %d): %v, asked for %v", r.n, got, r.want)
		}
	}
}

// 3.1: sized bytes of none, of few and of many.
func TestSizedByHand(t *testing.T) {
	for _, data := range [][]byte{nil, {}} {
		if got := enc.Sized(nil, data); !bytes.Equal(got, []byte{0}) {
			t.Errorf("Sized of nothing: %v", got)
		}
	}
	if got := enc.Sized([]byte("x"), []byte("ab")); string(got) != "x\x02ab" {
		t.Errorf("Sized of ab behind x: %q", got)
	}
	for _, n := range []int{1, 126, 127, 128, 129, 300, 16383, 16384, 100_003} {
		data := mixed(n)
		if got, want := enc.Sized(nil, data), append(countByWords(n), data...); !bytes.Equal(got, want) {
			t.Errorf("Sized of %d bytes begins with %v", n, got[:min(len(got), 12)])
		}
	}
}

// 3.1: numbers of all sizes, as the words tell their bytes.
func TestNumbersByWords(t *testing.T) {
	row := rand.New(rand.NewSource(31))
	list := edges()
	for i := range 5000 {
		list = append(list, int(row.Uint64())>>(i%64))
	}
	for _, n := range list {
		if got, want := enc.Count(nil, n), countByWords(n); !bytes.Equal(got, want) {
			t.Errorf("Count(nil, %d): %v, asked for %v", n, got, want)
		}
		if got, want := enc.Whole(nil, n), wholeByWords(n); !bytes.Equal(got, want) {
			t.Errorf("Whole(nil, %d): %v, asked for %v", n, got, want)
		}
	}
}

// writes are the three ways to write something behind bytes.
func writes() map[string]func(b []byte) []byte {
	return map[string]func(b []byte) []byte{
		"Count": func(b []byte) []byte { return enc.Count(b, 300) },
		"Whole": func(b []byte) []byte { return enc.Whole(b, -5) },
		"Sized": func(b []byte) []byte { return enc.Sized(b, []byte("data")) },
	}
}

// 3.1: what is written stands behind what was there.
func TestWrittenBehind(t *testing.T) {
	for name, write := range writes() {
		alone := write(nil)
		for _, b := range [][]byte{{}, {0}, {128}, []byte("ahead"), mixed(1000)} {
			if got, want := write(b), append(bytes.Clone(b), alone...); !bytes.Equal(got, want) {
				t.Errorf("%s behind %d bytes: %v", name, len(b), got)
			}
		}
	}
}

// 3.1: what is written stands in memory of its own: spare room stays as it
// was, and no two answers share any.
func TestWrittenInMemoryOfItsOwn(t *testing.T) {
	for name, write := range writes() {
		room := []byte("ab............")
		one, other := write(room[:2]), write(room[:2])
		if string(room) != "ab............" {
			t.Fatalf("%s made %q of the bytes and their room", name, room)
		}
		want := bytes.Clone(one)
		room[0] = 'x'
		for i := range other {
			other[i] ^= 255
		}
		_ = append(other, "more"...)
		if !bytes.Equal(one, want) {
			t.Errorf("%s shares memory: %q", name, one)
		}
		one[1] = 'y'
		if string(room) != "xb............" {
			t.Errorf("%s: the bytes share memory with what was told: %q", name, room)
		}
	}
}

// 3.1: the data of sized bytes are neither changed nor kept, if they are the
// bytes ahead, too.
func TestSizedSharesNothing(t *testing.T) {
	data := []byte("data....")
	sized := enc.Sized(nil, data[:4])
	both := enc.Sized(data[:4], data[2:4])
	if string(data) != "data...." {
		t.Fatalf("Sized made %q of its data", data)
	}
	copy(data, "changed!")
	if string(sized) != "\x04data" || string(both) != "data\x02ta" {
		t.Errorf("behind a change of the data: %q and %q", sized, both)
	}
	none := enc.Sized([]byte{}, []byte{})
	none[0] = 7
	if again := enc.Sized([]byte{}, []byte{}); !bytes.Equal(again, []byte{0}) {
		t.Errorf("Sized of nothing behind a change of another: %v", again)
	}
}
