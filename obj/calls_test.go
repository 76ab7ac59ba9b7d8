package obj_test

import (
	"math"
	"math/rand"
	"slices"
	"strings"
	"testing"

	"hibernacle/api"
	"hibernacle/obj"
)

// anyRecord is one of any kind, that mostly may not be.
func anyRecord(from *rand.Rand) obj.Rec {
	kinds := append(kept(), unkept()...)
	r := obj.Rec{Kind: kinds[from.Intn(len(kinds))], Bytes: bytesOf(from, from.Intn(3), 256)}
	all := append(append(values(), unvalues()...), api.Ref, api.Ref, api.Ref, api.Ref, api.Ref)
	for range from.Intn(6) {
		p := obj.Part{K: all[from.Intn(len(all))], N: edges()[from.Intn(len(edges()))]}
		if from.Intn(3) == 0 {
			p.S = names()[from.Intn(60)]
		}
		r.Parts = append(r.Parts, p)
	}
	return r
}

// 11.2: links by hand: none, one and many, in order, each as often as it is
// there, also of records that may not be.
func TestLinksByHand(t *testing.T) {
	ref := func(n int) obj.Part { return obj.Part{K: api.Ref, N: n} }
	list := []struct {
		r    obj.Rec
		want []int
	}{
		{obj.Rec{}, nil},
		{obj.Rec{Kind: api.Vector, Parts: []obj.Part{}}, nil},
		{obj.Rec{Kind: api.String, Bytes: "abc"}, nil},
		{obj.Rec{Kind: api.Pair, Parts: []obj.Part{{K: api.Int, N: 8}, {K: api.Prim, N: 9}}}, nil},
		{obj.Rec{Kind: api.Box, Parts: []obj.Part{ref(5)}}, []int{5}},
		{obj.Rec{Kind: api.Pair, Parts: []obj.Part{ref(9), ref(2)}}, []int{9, 2}},
		{obj.Rec{Kind: api.Vector, Parts: []obj.Part{ref(3), {K: api.Int, N: 4}, ref(1), ref(3), {}}}, []int{3, 1, 3}},
		{obj.Rec{Kind: api.Box, Parts: []obj.Part{ref(0), ref(-1), ref(16385), {K: api.Ref, N: math.MaxInt, S: "a"}}}, []int{0, -1, 16385, math.MaxInt}},
		{obj.Rec{Kind: api.Alias, Parts: []obj.Part{ref(math.MinInt)}, Bytes: "\xff"}, []int{math.MinInt}},
		{obj.Rec{Kind: -1, Parts: []obj.Part{{K: api.Kinds, N: 1}, {K: -1, N: 2}, ref(3)}}, []int{3}},
		{obj.Rec{Kind: api.Code, Parts: slices.Repeat([]obj.Part{ref(6)}, 300)}, slices.Repeat([]int{6}, 300)},
	}
	for _, x := range list {
		if got := obj.Links(x.r); !slices.Equal(got, x.want) {
			t.Fatalf("Links(%v): %v, not %v", x.r, got, x.want)
		}
	}
}

// 11.2: two answers of Links share nothing with each other.
func TestLinksAreNew(t *testing.T) {
	r := obj.Rec{Kind: api.Box, Parts: []obj.Part{{K: api.Ref, N: 1}, {K: api.Ref, N: 2}}}
	was := copyOf(r)
	one, two := obj.Links(r), obj.Links(r)
	one[0] = 7
	_ = append(one[:1], 8)
	if !slices.Equal(two, []int{1, 2}) || !same(r, was) {
		t.Fatalf("%v, %v", two, r)
	}
}

// 11.2: records that differ in one thing aren't the same.
func TestSameByHand(t *testing.T) {
	some := obj.Rec{Kind: api.Vector, Parts: []obj.Part{{K: api.Int, N: 1}, {K: api.Sym, S: "ab"}}, Bytes: "xy"}
	others := map[string]func(r *obj.Rec){
		"kind":          func(r *obj.Rec) { r.Kind = api.Values },
		"part's kind":   func(r *obj.Rec) { r.Parts[0].K = api.Char },
		"part's number": func(r *obj.Rec) { r.Parts[0].N = 2 },
		"high bits":     func(r *obj.Rec) { r.Parts[0].N += 1 << 40 },
		"a symbol's":    func(r *obj.Rec) { r.Parts[1].N = 1 },
		"name":          func(r *obj.Rec) { r.Parts[1].S = "ac" },
		"longer name":   func(r *obj.Rec) { r.Parts[1].S = "abc" },
		"an Int's name": func(r *obj.Rec) { r.Parts[0].S = "ab" },
		"fewer parts":   func(r *obj.Rec) { r.Parts = r.Parts[:1] },
		"no parts":      func(r *obj.Rec) { r.Parts = nil },
		"more parts":    func(r *obj.Rec) { r.Parts = append(r.Parts, obj.Part{}) },
		"their order":   func(r *obj.Rec) { slices.Reverse(r.Parts) },
		"byte":          func(r *obj.Rec) { r.Bytes = "xz" },
		"fewer bytes":   func(r *obj.Rec) { r.Bytes = "x" },
		"no bytes":      func(r *obj.Rec) { r.Bytes = "" },
		"more bytes":    func(r *obj.Rec) { r.Bytes = "xy\x00" },
	}
	for what, change := range others {
		other := copyOf(some)
		change(&other)
		if obj.Same(some, other) || obj.Same(other, some) {
			t.Fatalf("%s: the same", what)
		}
		if !obj.Same(other, copyOf(other)) {
			t.Fatalf("%s: not the same as itself", what)
		}
	}
	if !obj.Same(some, copyOf(some)) {
		t.Fatal("not the same as itself")
	}
}

// 11.2: nil and empty parts are one.
func TestSameOfNoParts(t *testing.T) {
	for _, k := range append(kept(), unkept()...) {
		a, b := obj.Rec{Kind: k}, obj.Rec{Kind: k, Parts: []obj.Part{}}
		if !obj.Same(a, b) || !obj.Same(b, a) || !obj.Same(a, a) || !obj.Same(b, b) {
			t.Fatalf("of kind %d nil and empty differ", k)
		}
		c := obj.Rec{Kind: k, Parts: []obj.Part{{}}}
		if obj.Same(a, c) || obj.Same(c, b) {
			t.Fatalf("of kind %d none and one are the same", k)
		}
	}
}

// 11.2: a record turned has the numbers that the function tells, and all else
// as it was; what was handed in stays.
func TestTurnByHand(t *testing.T) {
	r := obj.Rec{Kind: api.Frame, Parts: []obj.Part{{K: api.Ref, N: 4}, {K: api.Int, N: 4}, {K: api.Sym, S: "s"}, {K: api.Ref, N: 9}, {K: api.Prim, N: 9}, {K: api.Ref, N: 4}}}
	was := copyOf(r)
	want := copyOf(r)
	want.Parts[0].N, want.Parts[3].N, want.Parts[5].N = 104, 109, 104
	var asked []int
	x := obj.Turn(r, func(n int) int {
		asked = append(asked, n)
		return n + 100
	})
	if !same(x, want) || !same(r, was) {
		t.Fatalf("turned %v, of what is %v", x, r)
	}
	slices.Sort(asked)
	if got := slices.Compact(asked); !slices.Equal(got, []int{4, 9}) {
		t.Fatalf("it was asked for %v", got)
	}
	if x = obj.Turn(r, func(n int) int { return n }); !same(x, was) || !same(r, was) {
		t.Fatalf("turned %v, of what is %v", x, r)
	}
}

// 11.2: what is turned to may be any number, also one that may not be.
func TestTurnToAny(t *testing.T) {
	for _, k := range append(kept(), unkept()...) {
		for _, n := range edges() {
			r := obj.Rec{Kind: k, Parts: []obj.Part{{K: api.Ref, N: n, S: "s"}, {K: api.Kinds, N: n}, {K: api.Ref, N: 1}}, Bytes: strings.Repeat("\xff", 4097)}
			want := copyOf(r)
			want.Parts[0].N, want.Parts[2].N = ^n, ^1
			if x := obj.Turn(r, func(n int) int { return ^n }); !same(x, want) {
				t.Fatalf("turned %v, not %v", x, want)
			}
		}
	}
}

// 11.2: of records without references the function isn't asked for anything.
func TestTurnOfNone(t *testing.T) {
	for _, list := range [][]obj.Part{nil, {}, {{K: api.Int, N: 1}}, {{}, {K: api.Kinds, N: 3}, {K: -1, N: 4}}} {
		r := obj.Rec{Kind: api.Vector, Parts: list, Bytes: "b"}
		x := obj.Turn(r, func(n int) int {
			t.Fatalf("asked for %d", n)
			return 0
		})
		if !same(x, r) {
			t.Fatalf("turned %v, not %v", x, r)
		}
	}
}

// 11.2: what is turned shares nothing with what it was turned of.
func TestTurnedIsNew(t *testing.T) {
	list := make([]obj.Part, 3, 9)
	for i := range list {
		list[i] = obj.Part{K: api.Int, N: i}
	}
	r := obj.Rec{Kind: api.Vector, Parts: list[:2]}
	was := copyOf(r)
	x := obj.Turn(r, func(n int) int { return n })
	x.Parts[0].N = 7
	_ = append(x.Parts, obj.Part{K: api.Char, N: 8})
	if !same(r, was) || list[2] != (obj.Part{K: api.Int, N: 2}) {
		t.Fatalf("it was %v, and is %v", was, list)
	}
	r.Parts[1].N = 9
	if x.Parts[1].N != 1 {
		t.Fatalf("what was turned went on: %v", x)
	}
}

// 11.2: Links, Same and Turn of any records, mostly of such that may not be.
func TestAnyRecords(t *testing.T) {
	from := rand.New(rand.NewSource(112))
	for range 20000 {
		r, o := anyRecord(from), anyRecord(from)
		was := copyOf(r)
		var links []int
		turned := copyOf(r)
		for i, p := range r.Parts {
			if p.K == api.Ref {
				links = append(links, p.N)
				turned.Parts[i].N = p.N ^ 5
			}
		}
		if got := obj.Links(r); !slices.Equal(got, links) {
			t.Fatalf("Links(%v): %v, not %v", r, got, links)
		}
		if x := obj.Turn(r, func(n int) int { return n ^ 5 }); !same(x, turned) {
			t.Fatalf("Turn(%v): %v, not %v", r, x, turned)
		}
		if got := obj.Same(r, o); got != same(r, o) {
			t.Fatalf("Same(%v, %v): %v", r, o, got)
		}
		if !obj.Same(r, was) || !same(r, was) {
			t.Fatalf("it was %v, and is %v", was, r)
		}
		checkMay(t, r)
	}
}
