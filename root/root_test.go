package root_test

import (
	"encoding/binary"
	"hash/crc32"
	"math"
	"strings"
	"testing"

	"hibernacle/api"
	"hibernacle/root"
)

const most = 1 << 62

// r is a root of an epoch, by its four numbers.
func r(epoch, pages, dir, word int) root.Root {
	return root.Root{Epoch: epoch, Pages: pages, Dir: dir, Word: word}
}

// zeros is an empty block.
var zeros = strings.Repeat("\x00", api.Sector)

// block is a root's block by the chapter's words, whether the root may be or
// not.
func block(x root.Root) string {
	var b []byte
	b = binary.BigEndian.AppendUint64(b, uint64(x.Epoch))
	b = append(b, "HIBR"...)
	b = binary.BigEndian.AppendUint32(b, uint32(x.Pages))
	b = binary.BigEndian.AppendUint32(b, uint32(x.Dir))
	b = binary.BigEndian.AppendUint32(b, uint32(x.Word))
	b = append(b, make([]byte, 92)...)
	return summed(string(b), x.Epoch)
}

// summed is a block of 116 bytes: with their sum, and an epoch behind it.
func summed(ahead string, epoch int) string {
	b := binary.LittleEndian.AppendUint32([]byte(ahead), crc32.ChecksumIEEE([]byte(ahead)))
	return string(binary.BigEndian.AppendUint64(b, uint64(epoch)))
}

// with is a text that has other bytes at a place.
func with(s string, place int, bytes string) string {
	return s[:place] + bytes + s[place+len(bytes):]
}

// resummed is a block that has other bytes at a place ahead of its sum, which
// is right for them.
func resummed(x root.Root, place int, bytes string) string {
	return summed(with(block(x), place, bytes)[:116], x.Epoch)
}

// encode is the block of a root that may be.
func encode(t *testing.T, x root.Root) string {
	t.Helper()
	s, e := root.Encode(x)
	if e != api.OK {
		t.Fatalf("Encode(%v): %d", x, e)
	}
	return s
}

// roots are roots with each field at its bounds, and some between them.
func roots() []root.Root {
	return []root.Root{
		r(1, 4, 2, 0), r(1, 16, 2, 7), r(2, 4, 3, 1), r(3, 120, 60, 99), r(255, 5, 4, 255), r(256, 256, 255, 256),
		r(257, 257, 256, 1<<16), r(0x0102030405060708, 0x1b3, 0x112, 0x11223344), r(most, 512, 511, 1<<31-1),
		r(most-1, 512, 2, 1<<31-1), r(1, 512, 511, 0), r(most, 4, 2, 0), r(1<<61, 300, 3, 1<<30), r(1<<56, 4, 3, 1<<24),
	}
}

// strangers are roots that may not be: one field of them, or more, is beyond
// its bounds.
func strangers() []root.Root {
	return []root.Root{
		{}, r(0, 16, 2, 7), r(-1, 16, 2, 7), r(most+1, 16, 2, 7), r(math.MaxInt, 16, 2, 7), r(math.MinInt, 16, 2, 7),
		r(1, 3, 2, 7), r(1, 513, 2, 7), r(1, 0, 2, 7), r(1, -4, 2, 7), r(1, math.MaxInt, 2, 7), r(1, math.MinInt, 2, 7),
		r(1, 16, 1, 7), r(1, 16, 0, 7), r(1, 16, -2, 7), r(1, 16, 16, 7), r(1, 16, 17, 7), r(1, 4, 4, 7), r(1, 512, 512, 7),
		r(1, 3, 3, 0), r(1, math.MinInt, math.MinInt, 0), r(1, 16, math.MaxInt, 7), r(1, 16, math.MinInt, 7),
		r(1, 16, 2, -1), r(1, 16, 2, 1<<31), r(1, 16, 2, 1<<32), r(1, 16, 2, math.MaxInt), r(1, 16, 2, math.MinInt),
		r(0, 3, 1, -1),
		// Those whose fields would be written as a root's that may be.
		r(1, 1<<32+16, 2, 7), r(1, 16, 1<<32+2, 7), r(1, 16, 2, 1<<32+7), r(math.MinInt+1, 16, 2, 7),
	}
}

// 5.1: roots with each field at its bounds may be.
func TestMay(t *testing.T) {
	for _, x := range roots() {
		if !root.May(x) {
			t.Errorf("%v may not be", x)
		}
	}
}

// 5.1: roots with a field just beyond its bounds, and far beyond, may not be,
// and have no block.
func TestMayNot(t *testing.T) {
	for _, x := range strangers() {
		if root.May(x) {
			t.Errorf("%v may be", x)
		}
		if s, e := root.Encode(x); s != "" || e != api.ErrArg {
			t.Errorf("Encode(%v): %q, %d", x, s, e)
		}
	}
}

// 5.1: each field by itself, gone over beyond its bounds.
func TestMayField(t *testing.T) {
	for pages := -2; pages < 520; pages++ {
		if got, want := root.May(r(5, pages, 2, 0)), pages >= 4 && pages <= 512; got != want {
			t.Errorf("a root of %d pages: %v", pages, got)
		}
		for _, dir := range []int{-1, 0, 1, 2, 3, pages - 2, pages - 1, pages, pages + 1, 511, 512} {
			want := pages >= 4 && pages <= 512 && dir >= 2 && dir <= pages-1
			if got := root.May(r(5, pages, dir, 0)); got != want {
				t.Errorf("a root of %d pages with the directory %d: %v", pages, dir, got)
			}
		}
	}
}

// 5.1: a block's bytes, each in its place.
func TestEncodeBytes(t *testing.T) {
	s := encode(t, r(0x0102030405060708, 0x1b3, 0x112, 0x11223344))
	if len(s) != 128 {
		t.Fatalf("a block of %d bytes", len(s))
	}
	ahead := "\x01\x02\x03\x04\x05\x06\x07\x08" + "HIBR" + "\x00\x00\x01\xb3" + "\x00\x00\x01\x12" + "\x11\x22\x33\x44" +
		strings.Repeat("\x00", 92)
	if got := s[:116]; got != ahead {
		t.Errorf("ahead of the sum: %q", got)
	}
	sum := crc32.ChecksumIEEE([]byte(ahead))
	if got := s[116:120]; got != string([]byte{byte(sum), byte(sum >> 8), byte(sum >> 16), byte(sum >> 24)}) {
		t.Errorf("the sum %x is written %x", sum, got)
	}
	if got := s[120:]; got != "\x01\x02\x03\x04\x05\x06\x07\x08" {
		t.Errorf("the epoch at the end: %q", got)
	}
}

// 5.1: the block of a root that may be is the chapter's, and tells that root.
func TestEncodeAndDecode(t *testing.T) {
	for _, x := range roots() {
		s := encode(t, x)
		if s != block(x) {
			t.Errorf("Encode(%v): %q", x, s)
		}
		if got, e := root.Decode(s); got != x || e != api.OK {
			t.Errorf("Decode of the block of %v: %v, %d", x, got, e)
		}
	}
}

// checkDecode asks that a text is refused.
func checkDecode(t *testing.T, name, s string, want api.Errno) {
	t.Helper()
	if x, e := root.Decode(s); x != (root.Root{}) || e != want {
		t.Errorf("Decode of %s: %v, %d, asked for %d", name, x, e, want)
	}
}

// 5.1: what hasn't 128 bytes is no block, whatever it begins with.
func TestDecodeLength(t *testing.T) {
	whole := block(r(1, 16, 2, 7))
	for n := range 128 {
		checkDecode(t, "the beginning of a block", whole[:n], api.ErrArg)
		checkDecode(t, "the end of a block", whole[128-n:], api.ErrArg)
		checkDecode(t, "fewer zeros", zeros[:n], api.ErrArg)
	}
	for _, more := range []string{"\x00", "a", whole, zeros} {
		checkDecode(t, "more than a block", whole+more, api.ErrArg)
		checkDecode(t, "more ahead of a block", more+whole, api.ErrArg)
		checkDecode(t, "more than zeros", zeros+more, api.ErrArg)
	}
}

// 5.1: zeros are empty; one bit of them that isn't 0 has them be torn, or
// harmed.
func TestDecodeEmpty(t *testing.T) {
	checkDecode(t, "zeros", zeros, api.ErrNone)
	for place := range 128 {
		want := api.ErrHarm
		if place < 8 || place >= 120 {
			want = api.ErrForm
		}
		for bit := range 8 {
			checkDecode(t, "zeros with a bit", with(zeros, place, string([]byte{1 << bit})), want)
		}
	}
}

// 5.1: what has two epochs that differ is torn, whatever else is wrong.
func TestDecodeTorn(t *testing.T) {
	whole := block(r(5, 16, 2, 7))
	other := block(r(7, 16, 2, 7))
	for name, s := range map[string]string{
		"a block with another epoch behind":        whole[:120] + other[120:],
		"a block with another epoch ahead":         other[:8] + whole[8:],
		"a block with no epoch behind":             whole[:120] + zeros[120:],
		"a block with no epoch ahead":              zeros[:8] + whole[8:],
		"a block whose epochs differ in one bit":   with(whole, 120, "\x80"),
		"one with a wrong sum":                     with(whole[:120]+other[120:], 116, "abcd"),
		"one with a wrong word":                    with(whole[:120]+other[120:], 8, "hibr"),
		"one with a right sum over a wrong word":   summed(with(whole, 8, "HIBS")[:116], 7),
		"one whose fields may not be":              summed(block(r(5, 3, 2, 7))[:116], 7),
		"one whose epochs may not be":              summed(block(r(0, 16, 2, 7))[:116], -1),
		"one whose first epoch may not be":         summed(block(r(0, 16, 2, 7))[:116], 5),
		"zeros with an epoch behind":               with(zeros, 120, whole[120:]),
		"zeros with an epoch ahead":                with(zeros, 0, whole[:8]),
		"bytes 255 with an epoch ahead":            with(strings.Repeat("\xff", 128), 0, whole[:8]),
		"letters whose first and last ones differ": strings.Repeat("a", 127) + "b",
	} {
		checkDecode(t, name, s, api.ErrForm)
	}
}

// 5.1: what has two epochs that are the same, but is no root's block, is
// harmed.
func TestDecodeHarmed(t *testing.T) {
	x := r(5, 16, 2, 7)
	whole := block(x)
	for name, s := range map[string]string{
		"a block with a wrong sum":              with(whole, 116, "abcd"),
		"a block with a sum of 0":               with(whole, 116, "\x00\x00\x00\x00"),
		"a block with a sum turned round":       whole[:116] + whole[119:120] + whole[118:119] + whole[117:118] + whole[116:117] + whole[120:],
		"a block with a wrong word":             with(whole, 8, "hibr"),
		"a right sum over a word HIBS":          resummed(x, 8, "HIBS"),
		"a right sum over a word hibr":          resummed(x, 8, "hibr"),
		"a right sum over a word RBIH":          resummed(x, 8, "RBIH"),
		"a right sum over no word":              resummed(x, 8, "\x00\x00\x00\x00"),
		"a sum over all but the sum":            with(whole, 116, sumOf(whole[:116]+whole[120:])),
		"a sum over fewer bytes":                with(whole, 116, sumOf(whole[:115])),
		"bytes 255":                             strings.Repeat("\xff", 128),
		"letters":                               strings.Repeat("a", 128),
		"a right sum over zeros and no epoch":   summed(zeros[:116], 0),
		"a right sum over zeros and an epoch":   summed(whole[:8]+zeros[:108], 5),
		"a right sum over letters":              summed(strings.Repeat("\x01", 116), 0x0101010101010101),
		"a block with its last ones of another": whole[:24] + strings.Repeat("\x01", 92) + whole[116:],
	} {
		checkDecode(t, name, s, api.ErrHarm)
	}
	for _, x := range strangers() {
		if x != (root.Root{}) && int(uint32(x.Pages)) == x.Pages && int(uint32(x.Dir)) == x.Dir && int(uint32(x.Word)) == x.Word {
			checkDecode(t, "fields that may not be", block(x), api.ErrHarm)
		}
	}
	for _, field := range []int{12, 16, 20} {
		for _, top := range []string{"\x80", "\xff", "\x01"} {
			if field == 20 && top == "\x01" {
				continue
			}
			checkDecode(t, "a right sum over a great field", resummed(x, field, top), api.ErrHarm)
		}
	}
}

func sumOf(s string) string {
	return string(binary.LittleEndian.AppendUint32(nil, crc32.ChecksumIEEE([]byte(s))))
}

// 5.1: each of the 92 bytes behind the fields is 0, even where the sum is
// right for what stands there.
func TestDecodeNotZero(t *testing.T) {
	for place := 24; place < 116; place++ {
		for _, b := range []string{"\x01", "\x80", "\xff"} {
			checkDecode(t, "a right sum over a byte that isn't 0", resummed(r(5, 16, 2, 7), place, b), api.ErrHarm)
		}
	}
}

// 5.1: each byte that is read of the fields counts, when the sum is right.
func TestDecodeFields(t *testing.T) {
	x := r(0x0102030405060708, 0x1b3, 0x112, 0x11223344)
	for place := 12; place < 24; place++ {
		for b := range 256 {
			s := resummed(x, place, string([]byte{byte(b)}))
			want := x
			want.Pages = int(binary.BigEndian.Uint32([]byte(s[12:])))
			want.Dir = int(binary.BigEndian.Uint32([]byte(s[16:])))
			want.Word = int(binary.BigEndian.Uint32([]byte(s[20:])))
			e := api.OK
			if want.Pages < 4 || want.Pages > 512 || want.Dir < 2 || want.Dir >= want.Pages || want.Word > 1<<31-1 {
				want, e = root.Root{}, api.ErrHarm
			}
			if got, f := root.Decode(s); got != want || f != e {
				t.Errorf("Decode of %q: %v, %d, asked for %v, %d", s, got, f, want, e)
			}
		}
	}
}

// 5.1: odd epochs' blocks stand in the sector 4, even ones' in 0; those of
// epochs that may not be nowhere.
func TestPlace(t *testing.T) {
	for epoch, want := range map[int]int{1: 4, 2: 0, 3: 4, 4: 0, 5: 4, 1000: 0, 1001: 4, most: 0, most - 1: 4, most - 2: 0,
		1<<31 - 1: 4, 1 << 31: 0, 1<<32 + 1: 4, 1 << 32: 0,
		0: -1, -1: -1, -2: -1, most + 1: -1, most + 2: -1, math.MaxInt: -1, math.MinInt: -1, math.MinInt + 1: -1} {
		if got := root.Place(epoch); got != want {
			t.Errorf("Place(%d) is %d, not %d", epoch, got, want)
		}
	}
}
