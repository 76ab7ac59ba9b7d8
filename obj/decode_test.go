package obj_test

import (
	"math"
	"math/big"
	"math/rand"
	"slices"
	"strings"
	"testing"

	"hibernacle/api"
	"hibernacle/obj"
)

// items takes what a record's bytes are one behind the other: counts, whole
// numbers, bytes. It panics with the first error.
type items struct{ rest string }

func (x *items) need(is bool, e api.Errno) {
	if !is {
		panic(e)
	}
}

func (x *items) bytes(n int) string {
	x.need(len(x.rest) >= n, api.ErrEnd)
	b := x.rest[:n]
	x.rest = x.rest[n:]
	return b
}

// number takes a number of so many bits at most, written in the shortest way.
func (x *items) number(bits int) *big.Int {
	end := slices.IndexFunc([]byte(x.rest), func(b byte) bool { return b < 128 })
	x.need(end >= 0, api.ErrEnd)
	n, one := new(big.Int), big.NewInt(1)
	for i := range end + 1 {
		digit := big.NewInt(int64(x.rest[i] % 128))
		n.Add(n, digit.Mul(digit, one))
		one.Mul(one, big.NewInt(128))
	}
	x.need(n.BitLen() <= bits && count(n) == x.rest[:end+1], api.ErrForm)
	x.rest = x.rest[end+1:]
	return n
}

func (x *items) count(least, most int) int {
	n := x.number(63)
	x.need(n.Cmp(big.NewInt(int64(least))) >= 0 && n.Cmp(big.NewInt(int64(most))) <= 0, api.ErrForm)
	return int(n.Int64())
}

func (x *items) whole() int {
	half, odd := new(big.Int).DivMod(x.number(64), big.NewInt(2), new(big.Int))
	if odd.Sign() > 0 {
		half.Neg(half).Sub(half, big.NewInt(1))
	}
	return int(half.Int64())
}

// part takes one of the kinds of a word, of letters as letter tells them.
func (x *items) part(word string) obj.Part {
	k := int(x.bytes(1)[0])
	x.need(k < len("nbicspuer") && strings.Contains(word, "nbicspuer"[k:k+1]), api.ErrForm)
	p := obj.Part{K: api.Kind(k)}
	switch p.K {
	case api.Bool:
		p.N = x.count(0, 1)
	case api.Char:
		p.N = x.count(0, 127)
	case api.Prim:
		p.N = x.count(0, 255)
	case api.Ref:
		p.N = x.count(1, 16384)
	case api.Int:
		p.N = x.whole()
	case api.Sym:
		p.S = x.bytes(x.count(1, 32))
		x.need(name.MatchString(p.S), api.ErrForm)
	}
	return p
}

// plainDecode is Decode by the chapter's words: each thing is asked for what
// it must be as soon as it is there.
func plainDecode(b string) (r obj.Rec, e api.Errno) {
	defer func() {
		if fault, is := recover().(api.Errno); is {
			r, e = obj.Rec{}, fault
		}
	}()
	x := &items{b}
	k := int(x.bytes(1)[0])
	x.need(k <= int(api.Values), api.ErrForm)
	r.Kind = api.ObjKind(k)
	least := []int{2, 0, 0, 0, 1, 2, 1, 1, 2, 0}[k]
	most := []int{2, 256, 0, 0, 1, 2, 256, 256, 2, 256}[k]
	for i := range x.count(least, most) {
		word := "nbicspuer"
		switch {
		case r.Kind == api.Closure && i == 0:
			word = "r"
		case r.Kind == api.Closure, r.Kind == api.Frame && i == 0:
			word = "nr"
		case r.Kind == api.Code && i == 0:
			word = "i"
		}
		p := x.part(word)
		x.need(word != "i" || p.N >= 0 && p.N <= 63, api.ErrForm)
		r.Parts = append(r.Parts, p)
	}
	r.Bytes = x.bytes(x.count(0, []int{0, 0, 4096, 4096, 0, 0, 0, 0, 0, 0}[k]))
	x.need(r.Kind == api.Bytes || !strings.ContainsFunc(r.Bytes, func(c rune) bool { return c > 127 }), api.ErrForm)
	x.need(x.rest == "", api.ErrForm)
	return r, api.OK
}

// checkDecode asks that Decode tells what the words do: a record with just
// these bytes, or why there is none.
func checkDecode(t *testing.T, b string) {
	t.Helper()
	r, e := obj.Decode(b)
	want, is := plainDecode(b)
	if !same(r, want) || e != is {
		t.Fatalf("Decode(%q): %v, %d, not %v, %d", b, r, e, want, is)
	}
	if e != api.OK {
		return
	}
	if !plainMay(r) || plainBytes(r) != b {
		t.Fatalf("Decode(%q): %v, that has the bytes %q", b, r, plainBytes(r))
	}
	if again, e := obj.Encode(r); again != b || e != api.OK {
		t.Fatalf("Encode(%v): %q, %d, not %q", r, again, e, b)
	}
}

// refused asks that bytes are refused with an error.
func refused(t *testing.T, b string, is api.Errno) {
	t.Helper()
	if r, e := obj.Decode(b); !same(r, obj.Rec{}) || e != is {
		t.Fatalf("Decode(%q): %v, %d, not %d", b, r, e, is)
	}
}

// someRecords are records of each kind, short ones and the longest.
func someRecords(from *rand.Rand) []obj.Rec {
	list := []obj.Rec{
		{Kind: api.Vector}, {Kind: api.String}, {Kind: api.Bytes}, {Kind: api.Values},
		{Kind: api.Box, Parts: []obj.Part{{K: api.Sym, S: strings.Repeat("n", 32)}}},
		{Kind: api.Pair, Parts: []obj.Part{{K: api.Int, N: math.MinInt}, {K: api.Int, N: math.MaxInt}}},
		{Kind: api.Error, Parts: []obj.Part{{K: api.Ref, N: 16384}, {K: api.Char, N: 127}}},
	}
	for _, k := range kept() {
		for _, about := range []int{0, 1, 2, 3, 5, 8, 12} {
			list = append(list, record(from, k, about), record(from, k, about))
		}
	}
	return list
}

// longRecords are such that can't be longer.
func longRecords(from *rand.Rand) []obj.Rec {
	all := make([]obj.Part, 256)
	for i := range all {
		all[i] = obj.Part{K: api.Sym, S: bytesOf(from, 1, 10) + "a"}
		all[i].S = strings.Repeat("n", 32)
	}
	code := append([]obj.Part{{K: api.Int, N: 63}}, all[1:]...)
	frame := append([]obj.Part{{K: api.Ref, N: 16384}}, parts(from, 255)...)
	return []obj.Rec{
		{Kind: api.Vector, Parts: all}, {Kind: api.Values, Parts: parts(from, 256)}, {Kind: api.Code, Parts: code}, {Kind: api.Frame, Parts: frame},
		{Kind: api.String, Bytes: bytesOf(from, 4096, 128)}, {Kind: api.Bytes, Bytes: bytesOf(from, 4096, 256)},
	}
}

// 11.1: bytes of records, cut at every place, end too early; with any byte
// behind them they are none's.
func TestCutAndMore(t *testing.T) {
	from := rand.New(rand.NewSource(113))
	for _, r := range append(someRecords(from), longRecords(from)...) {
		b, e := obj.Encode(r)
		if e != api.OK {
			t.Fatalf("Encode(%v): %d", r, e)
		}
		checkDecode(t, b)
		for i := range len(b) {
			refused(t, b[:i], api.ErrEnd)
		}
		for c := range 256 {
			refused(t, b+string([]byte{byte(c)}), api.ErrForm)
		}
		refused(t, b+b, api.ErrForm)
	}
}

// 11.1: bytes of records with each byte changed to each other one, whole, cut
// behind it, and with something more.
func TestEachByteChanged(t *testing.T) {
	from := rand.New(rand.NewSource(114))
	for _, r := range someRecords(from) {
		b, _ := obj.Encode(r)
		for i := range len(b) {
			for c := range 256 {
				x := b[:i] + string([]byte{byte(c)}) + b[i+1:]
				checkDecode(t, x)
				checkDecode(t, x[:i+1+from.Intn(len(x)-i)])
				checkDecode(t, x+bytesOf(from, 1+from.Intn(40), 256))
			}
		}
	}
	for _, r := range longRecords(from) {
		b, _ := obj.Encode(r)
		for i := 0; i < len(b); i += 1 + from.Intn(20) {
			checkDecode(t, b[:i]+string([]byte{b[i] ^ byte(1+from.Intn(255))})+b[i+1:])
		}
	}
}

// 11.1: any bytes, mostly small ones.
func TestAnyBytes(t *testing.T) {
	from := rand.New(rand.NewSource(115))
	for range 200000 {
		checkDecode(t, bytesOf(from, from.Intn(14), []int{3, 9, 10, 40, 256}[from.Intn(5)]))
	}
	for a := range 256 {
		checkDecode(t, string([]byte{byte(a)}))
		for b := range 256 {
			checkDecode(t, string([]byte{byte(a), byte(b)}))
			checkDecode(t, string([]byte{byte(a), byte(b), 0}))
		}
	}
}

// 11.1: of two faults that which comes first in the bytes.
func TestFirstFault(t *testing.T) {
	for b, is := range map[string]api.Errno{
		"":                         api.ErrEnd,  // no kind
		"\x00":                     api.ErrEnd,  // no count
		"\x00\x02":                 api.ErrEnd,  // no parts
		"\x00\x02\x02":             api.ErrEnd,  // no number
		"\x00\x02\x02\x82":         api.ErrEnd,  // a part of one
		"\x00\x02\x02\x02\x00":     api.ErrEnd,  // no size of its bytes
		"\x02\x00\x03ab":           api.ErrEnd,  // too few
		"\x04\x01\x04\x03ab":       api.ErrEnd,  // of a name, too
		"\x01\x80":                 api.ErrEnd,  // a part of a count
		"\x0a":                     api.ErrForm, // a kind that can't be kept, without a count
		"\x0d":                     api.ErrForm,
		"\x0e":                     api.ErrForm, // there is none
		"\xff":                     api.ErrForm,
		"\x80\x00\x00":             api.ErrForm, // a kind is a byte, not a count
		"\x00\x01":                 api.ErrForm, // too few parts, and none there
		"\x00\x03":                 api.ErrForm, // too many
		"\x04\x00":                 api.ErrForm,
		"\x04\x02":                 api.ErrForm,
		"\x06\x00":                 api.ErrForm,
		"\x07\x00":                 api.ErrForm,
		"\x02\x01":                 api.ErrForm,
		"\x03\x01":                 api.ErrForm,
		"\x01\x81\x02":             api.ErrForm, // 257
		"\x01\x80\x02":             api.ErrEnd,  // 256
		"\x01\x01\x09":             api.ErrForm, // no such part
		"\x01\x01\xff":             api.ErrForm,
		"\x05\x02\x00":             api.ErrForm, // a closure of no code
		"\x05\x02\x02":             api.ErrForm,
		"\x05\x02\x08":             api.ErrEnd,
		"\x05\x02\x08\x00":         api.ErrForm,
		"\x05\x02\x08\x01\x02":     api.ErrForm,
		"\x05\x02\x08\x01\x00":     api.ErrEnd,
		"\x06\x02\x01":             api.ErrForm, // a frame in no other one
		"\x06\x02\x08":             api.ErrEnd,
		"\x06\x02\x00":             api.ErrEnd,
		"\x07\x02\x00":             api.ErrForm, // a code without a number
		"\x07\x02\x02":             api.ErrEnd,
		"\x07\x02\x02\x7e":         api.ErrEnd,  // 63
		"\x07\x02\x02\x80\x01":     api.ErrForm, // 64
		"\x07\x02\x02\x01":         api.ErrForm, // -1
		"\x01\x02\x01\x02":         api.ErrForm, // a Bool of 2
		"\x01\x02\x01\x01":         api.ErrEnd,
		"\x01\x02\x03\x80\x01":     api.ErrForm, // a Char of 128
		"\x01\x02\x05\x80\x02":     api.ErrForm, // a Prim of 256
		"\x01\x02\x05\xff\x01":     api.ErrEnd,
		"\x01\x02\x08\x00":         api.ErrForm, // a Ref to 0
		"\x01\x02\x08\x80\x80\x01": api.ErrEnd,  // to 16384
		"\x01\x02\x08\x81\x80\x01": api.ErrForm, // to 16385
		"\x01\x02\x04\x00":         api.ErrForm, // a name without bytes
		"\x01\x02\x04\x21":         api.ErrForm, // one of 33
		"\x01\x02\x04\x20":         api.ErrEnd,
		"\x01\x02\x04\x02a ":       api.ErrForm,
		"\x01\x02\x04\x02ab":       api.ErrEnd,
		"\x00\x02\x00\x00\x01":     api.ErrForm, // bytes where there are none
		"\x02\x00\x81\x20":         api.ErrForm, // 4097
		"\x02\x00\x80\x20":         api.ErrEnd,  // 4096
		"\x02\x00\x01\x80":         api.ErrForm, // not a string's
		"\x02\x00\x01\x80\x00":     api.ErrForm,
		"\x03\x00\x01\x80":         api.OK,
		"\x03\x00\x01\x80\x00":     api.ErrForm, // one more
	} {
		if _, e := obj.Decode(b); e != is {
			t.Fatalf("Decode(%q): %d, not %d", b, e, is)
		}
		checkDecode(t, b)
	}
}

// 11.1: numbers that are too long, too large or not written in the shortest
// way, wherever a record has one.
func TestNumbersThatAreNone(t *testing.T) {
	full := func(n int, last byte) string { return strings.Repeat("\xff", n) + string([]byte{last}) }
	bad := []string{"\x80\x00", "\x81\x00", "\x82\x80\x00", "\xff\x00", "\x80\x80\x00", strings.Repeat("\x80", 9) + "\x00", strings.Repeat("\x80", 10) + "\x01",
		full(9, 2), full(9, 3), full(9, 0x7f), full(10, 1), full(10, 0), full(20, 1)}
	for _, n := range bad {
		for _, ahead := range []string{"\x01", "\x07", "\x01\x01\x02", "\x07\x01\x02", "\x01\x01\x01", "\x01\x01\x03", "\x01\x01\x05", "\x01\x01\x08", "\x01\x01\x04", "\x01\x00", "\x02\x00", "\x03\x00"} {
			refused(t, ahead+n, api.ErrForm)
			refused(t, ahead+n+strings.Repeat("\x00", 300), api.ErrForm)
			refused(t, ahead+n[:len(n)-1], api.ErrEnd)
		}
	}
	large := []string{"\x81\x02", "\xff\x7f", "\x80\x80\x02", full(7, 1), full(8, 0x7f)}
	for _, n := range large {
		for _, ahead := range []string{"\x01", "\x09", "\x06", "\x07", "\x01\x01\x01", "\x01\x01\x03", "\x01\x01\x05", "\x01\x01\x04", "\x01\x00", "\x03\x01\x00"} {
			refused(t, ahead+n, api.ErrForm)
			refused(t, ahead+n+strings.Repeat("\x00", 9000), api.ErrForm)
		}
	}
	// As a whole number the longest ones are those that fit in 64 bits.
	for n, want := range map[string]int{full(9, 1): math.MinInt, "\xfe" + full(8, 1): math.MaxInt, full(8, 0x7f): math.MinInt / 2} {
		r, e := obj.Decode("\x01\x01\x02" + n + "\x00")
		if e != api.OK || !same(r, obj.Rec{Kind: api.Vector, Parts: []obj.Part{{K: api.Int, N: want}}}) {
			t.Fatalf("Decode of %q: %v, %d, not %d", n, r, e, want)
		}
	}
}

// 11.1: names and bytes of the lengths that count, all of them there.
func TestLengths(t *testing.T) {
	for _, n := range []int{0, 1, 2, 31, 32, 33, 34, 127, 128, 129, 255, 256, 288, 4095, 4096, 4097, 8192, 16384} {
		text := strings.Repeat("n", n)
		is := api.ErrForm
		if n >= 1 && n <= 32 {
			is = api.OK
		}
		b := "\x04\x01\x04" + size(n) + text + "\x00"
		if _, e := obj.Decode(b); e != is {
			t.Fatalf("Decode of a name of %d bytes: %d, not %d", n, e, is)
		}
		checkDecode(t, b)
		is = api.ErrForm
		if n <= 4096 {
			is = api.OK
		}
		for _, kind := range []string{"\x02\x00", "\x03\x00"} {
			if _, e := obj.Decode(kind + size(n) + text); e != is {
				t.Fatalf("Decode of %d bytes: %d, not %d", n, e, is)
			}
			checkDecode(t, kind+size(n)+text)
		}
		checkDecode(t, "\x01\x00"+size(n)+text)
		checkDecode(t, "\x00\x02\x00\x00"+size(n)+text)
	}
}
