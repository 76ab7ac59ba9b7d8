package obj_test

import (
	"math"
	"math/big"
	"math/rand"
	"regexp"
	"slices"
	"strings"
	"testing"

	"hibernacle/api"
	"hibernacle/obj"
)

// kept are the kinds that can be kept.
func kept() []api.ObjKind {
	return []api.ObjKind{api.Pair, api.Vector, api.String, api.Bytes, api.Box, api.Closure, api.Frame, api.Code, api.Error, api.Values}
}

// unkept are kinds that can't, also some that there aren't.
func unkept() []api.ObjKind {
	return []api.ObjKind{api.Kont, api.Cont, api.Port, api.Alias, api.ObjKinds, api.ObjKinds + 1, -1, -2, -10, 127, 128, 255, 256, 257, 1 << 32,
		math.MinInt, math.MinInt + 1, math.MaxInt - 1, math.MaxInt}
}

// values are the kinds of parts.
func values() []api.Kind {
	return []api.Kind{api.Nil, api.Bool, api.Int, api.Char, api.Sym, api.Prim, api.Unspec, api.Eof, api.Ref}
}

// unvalues are kinds of parts that there aren't.
func unvalues() []api.Kind {
	return []api.Kind{api.Kinds, api.Kinds + 1, -1, -2, -8, 127, 128, 255, 256, 257, 260, 1 << 32, 1<<32 + 2, math.MinInt, math.MinInt + 1, math.MaxInt - 1, math.MaxInt}
}

// edges are the least and the most number that any part may have, numbers on
// both sides of them, and those whose last bits alone would do.
func edges() []int {
	list := []int{math.MinInt, math.MinInt + 1, -1 << 32, -129, -128, -127, -65, -64, -63, math.MaxInt - 1, math.MaxInt}
	for _, n := range []int{0, 1, 63, 127, 255, 256, 16384, 1 << 32} {
		list = append(list, n-2, n-1, n, n+1, n+2)
	}
	return list
}

// names are some that may be, and texts that may not.
func names() []string {
	list := []string{"", "car", "%", "...", "a b", "a\n", " a", "é", "\xff"}
	for _, n := range []int{1, 31, 32, 33, 34, 64, 127, 128, 256, 288, 4096} {
		list = append(list, strings.Repeat("n", n))
	}
	for b := range 256 {
		c := string([]byte{byte(b)})
		list = append(list, c, "ab"+c, c+"ab", "a"+c+"b")
	}
	return list
}

var name = regexp.MustCompile(`\A[!-~]{1,32}\z`)

// letter tells what a part is by the chapter's words: x is one that may not
// be, t an Int that a code may begin with.
func letter(p obj.Part) string {
	if p.K == api.Sym {
		return pick(p.N == 0 && name.MatchString(p.S), "s", "x")
	}
	if p.S != "" {
		return "x"
	}
	switch p.K {
	case api.Nil:
		return pick(p.N == 0, "n", "x")
	case api.Bool:
		return pick(p.N == 0 || p.N == 1, "b", "x")
	case api.Int:
		return pick(p.N >= 0 && p.N <= 63, "t", "i")
	case api.Char:
		return pick(p.N >= 0 && p.N <= 127, "c", "x")
	case api.Prim:
		return pick(p.N >= 0 && p.N <= 255, "p", "x")
	case api.Unspec, api.Eof:
		return pick(p.N == 0, "u", "x")
	case api.Ref:
		return pick(p.N >= 1 && p.N <= 16384, "r", "x")
	}
	return "x"
}

func pick(is bool, yes, no string) string {
	if is {
		return yes
	}
	return no
}

// form tells what a kind's parts must look like; nil of one that can't be kept.
func form(k api.ObjKind) *regexp.Regexp {
	switch k {
	case api.Pair, api.Error:
		return twoParts
	case api.Vector, api.Values:
		return anyParts
	case api.String, api.Bytes:
		return noParts
	case api.Box:
		return onePart
	case api.Closure:
		return closure
	case api.Frame:
		return frame
	case api.Code:
		return code
	}
	return nil
}

var (
	noParts  = regexp.MustCompile(`\A\z`)
	onePart  = regexp.MustCompile(`\A[^x]\z`)
	twoParts = regexp.MustCompile(`\A[^x]{2}\z`)
	anyParts = regexp.MustCompile(`\A[^x]{0,256}\z`)
	closure  = regexp.MustCompile(`\Ar[rn]\z`)
	frame    = regexp.MustCompile(`\A[rn][^x]{0,255}\z`)
	code     = regexp.MustCompile(`\At[^x]{0,255}\z`)
)

// plainMay is May by the chapter's words.
func plainMay(r obj.Rec) bool {
	var word strings.Builder
	for _, p := range r.Parts {
		word.WriteString(letter(p))
	}
	if looks := form(r.Kind); looks == nil || !looks.MatchString(word.String()) {
		return false
	}
	switch r.Kind {
	case api.String:
		return len(r.Bytes) <= 4096 && !strings.ContainsFunc(r.Bytes, func(c rune) bool { return c >= 128 })
	case api.Bytes:
		return len(r.Bytes) <= 4096
	}
	return r.Bytes == ""
}

// count is a number's bytes: seven bits each, the lowest first.
func count(n *big.Int) string {
	rest, low := new(big.Int).DivMod(n, big.NewInt(128), new(big.Int))
	if rest.Sign() == 0 {
		return string([]byte{byte(low.Int64())})
	}
	return string([]byte{128 + byte(low.Int64())}) + count(rest)
}

func size(n int) string {
	return count(big.NewInt(int64(n)))
}

// whole is a whole number's bytes: those of 2n, or of -2n - 1.
func whole(n int) string {
	twice := new(big.Int).Mul(big.NewInt(int64(n)), big.NewInt(2))
	if n < 0 {
		twice.Neg(twice).Sub(twice, big.NewInt(1))
	}
	return count(twice)
}

// plainBytes is the bytes of a record that may be.
func plainBytes(r obj.Rec) string {
	b := string([]byte{byte(r.Kind)}) + size(len(r.Parts))
	for _, p := range r.Parts {
		b += string([]byte{byte(p.K)})
		switch letter(p) {
		case "t", "i":
			b += whole(p.N)
		case "b", "c", "p", "r":
			b += size(p.N)
		case "s":
			b += size(len(p.S)) + p.S
		}
	}
	return b + size(len(r.Bytes)) + r.Bytes
}

// same holds records against each other by their fields.
func same(a, b obj.Rec) bool {
	if a.Kind != b.Kind || a.Bytes != b.Bytes || len(a.Parts) != len(b.Parts) {
		return false
	}
	for i, p := range a.Parts {
		q := b.Parts[i]
		if p.K != q.K || p.N != q.N || p.S != q.S {
			return false
		}
	}
	return true
}

// copyOf shares nothing with a record.
func copyOf(r obj.Rec) obj.Rec {
	return obj.Rec{Kind: r.Kind, Parts: slices.Clone(r.Parts), Bytes: strings.Clone(r.Bytes)}
}

// checkMay asks that May and Encode tell of a record what the words do, that
// it stays as it was, and that it is made of its bytes.
func checkMay(t *testing.T, r obj.Rec) {
	t.Helper()
	was := copyOf(r)
	may, want, is := plainMay(r), "", api.ErrKeep
	switch {
	case may:
		want, is = plainBytes(r), api.OK
	case slices.Contains(kept(), r.Kind):
		is = api.ErrArg
	}
	if got := obj.May(r); got != may {
		t.Fatalf("May(%v): %v", r, got)
	}
	b, e := obj.Encode(r)
	if b != want || e != is {
		t.Fatalf("Encode(%v): %q, %d, not %q, %d", r, b, e, want, is)
	}
	if !same(r, was) {
		t.Fatalf("it was %v, and is %v", was, r)
	}
	if !may {
		return
	}
	if x, e := obj.Decode(b); !same(x, r) || e != api.OK {
		t.Fatalf("Decode(%q): %v, %d, not %v", b, x, e, r)
	}
}

// part is any part that may be, of a kind.
func part(from *rand.Rand, k api.Kind) obj.Part {
	p := obj.Part{K: k}
	switch k {
	case api.Bool:
		p.N = from.Intn(2)
	case api.Int:
		p.N = int(from.Uint64()) >> from.Intn(64)
	case api.Char:
		p.N = from.Intn(128)
	case api.Sym:
		p.S = "some-name-of-thirty-two-bytes-!%"[:1+from.Intn(32)]
	case api.Prim:
		p.N = from.Intn(256)
	case api.Ref:
		p.N = 1 + from.Intn(16384)>>from.Intn(14)
	}
	return p
}

// parts are so many that may be.
func parts(from *rand.Rand, n int) []obj.Part {
	var list []obj.Part
	for range n {
		list = append(list, part(from, values()[from.Intn(len(values()))]))
	}
	return list
}

// bytesOf are so many below a limit.
func bytesOf(from *rand.Rand, n, below int) string {
	b := make([]byte, n)
	for i := range b {
		b[i] = byte(from.Intn(below))
	}
	return string(b)
}

// record is any record of a kind that may be, with about so many parts or
// bytes where the kind leaves it open.
func record(from *rand.Rand, k api.ObjKind, about int) obj.Rec {
	r := obj.Rec{Kind: k}
	many := from.Intn(about + 1)
	refOrNil := part(from, []api.Kind{api.Nil, api.Ref}[from.Intn(2)])
	switch k {
	case api.Pair, api.Error:
		r.Parts = parts(from, 2)
	case api.Vector, api.Values:
		r.Parts = parts(from, many)
	case api.String:
		r.Bytes = bytesOf(from, many, 128)
	case api.Bytes:
		r.Bytes = bytesOf(from, many, 256)
	case api.Box:
		r.Parts = parts(from, 1)
	case api.Closure:
		r.Parts = []obj.Part{part(from, api.Ref), refOrNil}
	case api.Frame:
		r.Parts = append([]obj.Part{refOrNil}, parts(from, many)...)
	case api.Code:
		r.Parts = append([]obj.Part{{K: api.Int, N: from.Intn(64)}}, parts(from, many)...)
	}
	return r
}
