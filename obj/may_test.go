package obj_test

import (
	"math/rand"
	"slices"
	"strings"
	"testing"

	"hibernacle/api"
	"hibernacle/obj"
)

// The chapter's example.
func TestExample(t *testing.T) {
	r := obj.Rec{Kind: api.Pair, Parts: []obj.Part{{K: api.Int, N: 1}, {K: api.Nil}}}
	want := string([]byte{0, 2, 2, 2, 0, 0})
	if b, e := obj.Encode(r); b != want || e != api.OK {
		t.Fatalf("Encode: %q, %d", b, e)
	}
	if x, e := obj.Decode(want); !same(x, r) || e != api.OK {
		t.Fatalf("Decode: %v, %d", x, e)
	}
}

// 11.1: the bytes of one record of each kind, by hand.
func TestBytesByHand(t *testing.T) {
	ref, none := obj.Part{K: api.Ref, N: 300}, obj.Part{}
	list := []struct {
		r obj.Rec
		b string
	}{
		{obj.Rec{Kind: api.Pair, Parts: []obj.Part{{K: api.Bool, N: 1}, {K: api.Char, N: 97}}}, "\x00\x02\x01\x01\x03\x61\x00"},
		{obj.Rec{Kind: api.Vector}, "\x01\x00\x00"},
		{obj.Rec{Kind: api.Vector, Parts: []obj.Part{{K: api.Int, N: -1}, {K: api.Sym, S: "ab"}}}, "\x01\x02\x02\x01\x04\x02ab\x00"},
		{obj.Rec{Kind: api.String, Bytes: "hi\x7f"}, "\x02\x00\x03hi\x7f"},
		{obj.Rec{Kind: api.Bytes, Bytes: "\x80\xff"}, "\x03\x00\x02\x80\xff"},
		{obj.Rec{Kind: api.Box, Parts: []obj.Part{{K: api.Prim, N: 255}}}, "\x04\x01\x05\xff\x01\x00"},
		{obj.Rec{Kind: api.Closure, Parts: []obj.Part{ref, none}}, "\x05\x02\x08\xac\x02\x00\x00"},
		{obj.Rec{Kind: api.Frame, Parts: []obj.Part{ref}}, "\x06\x01\x08\xac\x02\x00"},
		{obj.Rec{Kind: api.Code, Parts: []obj.Part{{K: api.Int, N: 63}, {K: api.Unspec}}}, "\x07\x02\x02\x7e\x06\x00"},
		{obj.Rec{Kind: api.Error, Parts: []obj.Part{ref, {K: api.Eof}}}, "\x08\x02\x08\xac\x02\x07\x00"},
		{obj.Rec{Kind: api.Values, Parts: []obj.Part{{K: api.Int, N: 64}}}, "\x09\x01\x02\x80\x01\x00"},
	}
	for _, x := range list {
		if b, e := obj.Encode(x.r); b != x.b || e != api.OK {
			t.Fatalf("Encode(%v): %q, %d, not %q", x.r, b, e, x.b)
		}
		if r, e := obj.Decode(x.b); !same(r, x.r) || e != api.OK {
			t.Fatalf("Decode(%q): %v, %d", x.b, r, e)
		}
	}
}

// 11.1: which kinds can be kept, also of those that there aren't.
func TestKept(t *testing.T) {
	for _, k := range kept() {
		if !obj.Kept(k) {
			t.Fatalf("Kept(%d): false", k)
		}
	}
	for _, k := range unkept() {
		if obj.Kept(k) {
			t.Fatalf("Kept(%d): true", k)
		}
	}
	for k := api.ObjKind(-300); k < 600; k++ {
		if got := obj.Kept(k); got != slices.Contains(kept(), k) {
			t.Fatalf("Kept(%d): %v", k, got)
		}
	}
}

// mpartsAtEdges are lists of 0, 1, 2, 3, 256 and 257 parts, that begin as kinds
// ask for it.
func mpartsAtEdges(from *rand.Rand) [][]obj.Part {
	ref, none, tag := obj.Part{K: api.Ref, N: 7}, obj.Part{}, obj.Part{K: api.Int, N: 7}
	var list [][]obj.Part
	for _, n := range []int{0, 1, 2, 3, 255, 256, 257, 258, 512, 16384} {
		for _, first := range [][]obj.Part{{ref, ref}, {ref, none}, {none, ref}, {tag, ref}, {tag, tag}} {
			all := append(slices.Clone(first), parts(from, n)...)
			list = append(list, all[:n])
		}
	}
	return list
}

// manyBytes are bytes of all lengths that count, and below and above 128.
func manyBytes() []string {
	list := []string{"", "a", "\x00", "\x7f", "\x80", "\xff", "é", strings.Repeat("a", 9000)}
	for _, n := range []int{126, 127, 128, 129, 255, 256, 4095, 4096, 4097, 4098, 8192} {
		all := strings.Repeat("\x7f", n)
		list = append(list, all, all[1:]+"\x80", "\xff"+all[1:], all[:n/2]+"\x80"+all[n/2+1:])
	}
	return list
}

// 11.1: of each kind, also of those that can't be kept and those that there
// aren't, records with few and many parts and bytes.
func TestPartsAndBytesOfEachKind(t *testing.T) {
	from := rand.New(rand.NewSource(111))
	for _, k := range append(kept(), unkept()...) {
		for _, list := range mpartsAtEdges(from) {
			for _, b := range []string{"", "a", "\x80"} {
				checkMay(t, obj.Rec{Kind: k, Parts: list, Bytes: b})
			}
		}
		for _, b := range manyBytes() {
			checkMay(t, obj.Rec{Kind: k, Bytes: b})
			checkMay(t, obj.Rec{Kind: k, Parts: []obj.Part{}, Bytes: b})
			checkMay(t, obj.Rec{Kind: k, Parts: parts(from, 2), Bytes: b})
		}
	}
}

// 11.1: the counts of parts that each kind may have.
func TestCountsOfParts(t *testing.T) {
	least := map[api.ObjKind]int{api.Pair: 2, api.Box: 1, api.Closure: 2, api.Frame: 1, api.Code: 1, api.Error: 2}
	most := map[api.ObjKind]int{api.Pair: 2, api.Vector: 256, api.Box: 1, api.Closure: 2, api.Frame: 256, api.Code: 256, api.Error: 2, api.Values: 256}
	for _, k := range kept() {
		first := obj.Part{K: api.Ref, N: 1}
		if k == api.Code {
			first = obj.Part{K: api.Int}
		}
		for n := range 300 {
			list := append([]obj.Part{first}, make([]obj.Part, n)...)[:n]
			if got, want := obj.May(obj.Rec{Kind: k, Parts: list}), n >= least[k] && n <= most[k]; got != want {
				t.Fatalf("May of %d with %d parts: %v", k, n, got)
			}
		}
	}
}

// partsAtEdges are parts of each kind with each number that counts, without a
// name and with one.
func partsAtEdges() []obj.Part {
	var list []obj.Part
	for _, k := range append(values(), unvalues()...) {
		for _, n := range edges() {
			for _, s := range []string{"", "a", "a b", strings.Repeat("n", 32), strings.Repeat("n", 33)} {
				list = append(list, obj.Part{K: k, N: n, S: s})
			}
		}
	}
	return list
}

// 11.1: any part at any place of each kind that has some; a Closure's, a
// Frame's and a Code's first parts are asked for more.
func TestAnyPartAtAnyPlace(t *testing.T) {
	heads := map[api.ObjKind]obj.Part{api.Closure: {K: api.Ref, N: 1}, api.Frame: {}, api.Code: {K: api.Int, N: 1}}
	counts := map[api.ObjKind]int{api.Box: 1, api.Pair: 2, api.Closure: 2, api.Error: 2, api.Vector: 3, api.Values: 3, api.Frame: 3, api.Code: 3, api.Kont: 3, api.Alias: 3, -1: 3}
	for k, n := range counts {
		for _, p := range partsAtEdges() {
			for at := range n {
				list := make([]obj.Part, n)
				list[0] = heads[k]
				list[at] = p
				checkMay(t, obj.Rec{Kind: k, Parts: list})
			}
			checkMay(t, obj.Rec{Kind: k, Parts: []obj.Part{p}})
			checkMay(t, obj.Rec{Kind: k, Parts: []obj.Part{p, p}})
		}
	}
}

// 11.1: which parts may be, at the edges named, by hand.
func TestPartsByHand(t *testing.T) {
	list := []struct {
		k           api.Kind
		least, most int
	}{{api.Nil, 0, 0}, {api.Unspec, 0, 0}, {api.Eof, 0, 0}, {api.Bool, 0, 1}, {api.Char, 0, 127}, {api.Prim, 0, 255}, {api.Ref, 1, 16384}}
	for _, x := range list {
		for n, want := range map[int]bool{x.least - 1: false, x.least: true, x.most: true, x.most + 1: false} {
			r := obj.Rec{Kind: api.Box, Parts: []obj.Part{{K: x.k, N: n}}}
			if got := obj.May(r); got != want {
				t.Fatalf("May(%v): %v", r, got)
			}
			r.Parts[0].S = "a"
			if obj.May(r) {
				t.Fatalf("May(%v): true", r)
			}
		}
	}
}

// 11.1: symbols whose names may be, and whose may not; their numbers are 0.
func TestNames(t *testing.T) {
	for _, s := range names() {
		for _, n := range []int{0, 1, -1} {
			p := obj.Part{K: api.Sym, N: n, S: s}
			checkMay(t, obj.Rec{Kind: api.Box, Parts: []obj.Part{p}})
			checkMay(t, obj.Rec{Kind: api.Error, Parts: []obj.Part{p, p}})
			checkMay(t, obj.Rec{Kind: api.Code, Parts: []obj.Part{{K: api.Int}, p, {}}})
		}
	}
}

// 11.1: that a kind can't be kept is told ahead of what may not be.
func TestErrorsInTheirOrder(t *testing.T) {
	bad := []obj.Part{{K: api.Kinds}, {K: api.Bool, N: 2}, {K: api.Nil, S: "a"}}
	for _, r := range []obj.Rec{{}, {Parts: bad}, {Bytes: strings.Repeat("a", 4097)}, {Parts: make([]obj.Part, 257)}, {Parts: bad, Bytes: "\xff"}} {
		for _, k := range unkept() {
			r.Kind = k
			if b, e := obj.Encode(r); b != "" || e != api.ErrKeep {
				t.Fatalf("Encode(%v): %q, %d", r, b, e)
			}
		}
		for _, k := range []api.ObjKind{api.Pair, api.Box, api.Closure, api.Frame, api.Code, api.Error} {
			r.Kind = k
			if b, e := obj.Encode(r); b != "" || e != api.ErrArg {
				t.Fatalf("Encode(%v): %q, %d", r, b, e)
			}
		}
	}
}
