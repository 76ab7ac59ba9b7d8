package obj_test

import (
	"math/rand"
	"slices"
	"strings"
	"testing"

	"hibernacle/api"
	"hibernacle/obj"
)

// 11.3: a record is made of its bytes.
func TestMadeOfItsBytes(t *testing.T) {
	from := rand.New(rand.NewSource(116))
	for _, k := range kept() {
		for _, about := range []int{0, 1, 3, 10, 100, 255} {
			for range 100 {
				checkMay(t, record(from, k, about))
			}
		}
	}
	for _, r := range longRecords(from) {
		checkMay(t, r)
	}
}

// 11.3: bytes of a record are no other one's: of two records that are the
// same just one text is told, of others none twice.
func TestBytesAreNoOthers(t *testing.T) {
	from := rand.New(rand.NewSource(117))
	seen := map[string]obj.Rec{}
	for range 60000 {
		r := record(from, kept()[from.Intn(10)], from.Intn(3))
		b, e := obj.Encode(r)
		if e != api.OK {
			t.Fatalf("Encode(%v): %d", r, e)
		}
		if was, there := seen[b]; there && !same(was, r) {
			t.Fatalf("%q is the bytes of %v and of %v", b, was, r)
		}
		seen[b] = r
	}
}

// 11.3: of records that differ by a little the bytes differ.
func TestLittleChanges(t *testing.T) {
	from := rand.New(rand.NewSource(118))
	for _, r := range someRecords(from) {
		b, _ := obj.Encode(r)
		for i, p := range r.Parts {
			for _, q := range partsAtEdges() {
				other := copyOf(r)
				other.Parts[i] = q
				x, e := obj.Encode(other)
				if e == api.OK && (x == b) != (p == q) {
					t.Fatalf("%q is the bytes of %v and of %v", b, r, other)
				}
			}
			other := copyOf(r)
			other.Parts = slices.Delete(other.Parts, i, i+1)
			if x, e := obj.Encode(other); e == api.OK && x == b {
				t.Fatalf("%q is the bytes of %v and of %v", b, r, other)
			}
		}
		for _, k := range append(kept(), unkept()...) {
			other := copyOf(r)
			other.Kind = k
			if x, e := obj.Encode(other); e == api.OK && (x == b) != (k == r.Kind) {
				t.Fatalf("%q is the bytes of %v and of %v", b, r, other)
			}
		}
	}
}

// 11.3: two answers of Decode share nothing with each other.
func TestDecodedIsNew(t *testing.T) {
	r := obj.Rec{Kind: api.Vector, Parts: []obj.Part{{K: api.Int, N: 1}, {K: api.Sym, S: "a"}, {}}}
	b, _ := obj.Encode(r)
	one, _ := obj.Decode(b)
	two, _ := obj.Decode(b)
	one.Parts[0].N = 9
	_ = append(one.Parts[:1], obj.Part{K: api.Eof})
	if !same(two, r) {
		t.Fatalf("%v, not %v", two, r)
	}
	if three, e := obj.Decode(b); !same(three, r) || e != api.OK {
		t.Fatalf("%v, %d, not %v", three, e, r)
	}
}

// 11.3: what is turned may be kept just as what it was turned of, and refers
// to what it was turned to.
func TestTurnedIsKept(t *testing.T) {
	from := rand.New(rand.NewSource(119))
	for range 3000 {
		r := record(from, kept()[from.Intn(10)], 6)
		to := func(n int) int { return 16385 - n }
		x := obj.Turn(r, to)
		checkMay(t, x)
		if !obj.May(x) {
			t.Fatalf("May(%v): false", x)
		}
		var want []int
		for _, n := range obj.Links(r) {
			want = append(want, to(n))
		}
		if got := obj.Links(x); !slices.Equal(got, want) {
			t.Fatalf("Links(%v): %v, not %v", x, got, want)
		}
		if !obj.Same(obj.Turn(x, to), r) {
			t.Fatalf("turned back: %v, not %v", obj.Turn(x, to), r)
		}
	}
}

// P1: calls end also where what is handed in is much longer than may be.
func TestMuchTooLong(t *testing.T) {
	long := strings.Repeat("a", 1<<22)
	many := slices.Repeat([]obj.Part{{K: api.Ref, N: 1}}, 1<<20)
	for _, k := range append(kept(), unkept()...) {
		for _, r := range []obj.Rec{{Kind: k, Bytes: long}, {Kind: k, Parts: many}, {Kind: k, Parts: []obj.Part{{K: api.Sym, S: long}}}} {
			if b, e := obj.Encode(r); obj.May(r) || b != "" || e == api.OK {
				t.Fatalf("Encode of a record of %d that is much too long: %d bytes, %d", k, len(b), e)
			}
		}
	}
	r := obj.Rec{Parts: many}
	if got := obj.Links(r); len(got) != len(many) {
		t.Fatalf("%d links of %d", len(got), len(many))
	}
	if !obj.Same(obj.Turn(r, func(n int) int { return n }), r) {
		t.Fatal("what is turned to the same isn't the same")
	}
	for _, c := range []string{"\x00", "\x01", "\x02", "\x7f", "\x80", "\xff"} {
		if _, e := obj.Decode(strings.Repeat(c, 1<<22)); e == api.OK {
			t.Fatalf("Decode of many %q: a record", c)
		}
	}
}
