package bits_test

import (
	"fmt"
	"slices"
	"testing"

	"hibernacle/api"
	"hibernacle/bits"
)

// orRow and lessRow are what the chapter asks of two rows.
func orRow(r, o row) row {
	c := o.cut(len(r))
	for _, i := range r.all() {
		c[i] = true
	}
	return c
}

func lessRow(r, o row) row {
	c := r.cut(len(r))
	for _, i := range o.all() {
		c.drop(i)
	}
	return c
}

// 6.3: sets of one size, and of a smaller and a greater o; both are as they
// were.
func TestOrAndLess(t *testing.T) {
	list := []int{0, 1, 7, 8, 9, 10, 16, 17, 2047, 2048}
	for _, n := range list {
		for _, m := range list {
			for at, r := range rows(n) {
				all := rows(m)
				for _, o := range []row{all[0], all[1], all[at], all[(at+5)%len(all)]} {
					name := fmt.Sprintf("of the sizes %d and %d", n, m)
					s, p := setOf(t, r), setOf(t, o)
					check(t, "Or "+name, s.Or(p), orRow(r, o))
					check(t, "Less "+name, s.Less(p), lessRow(r, o))
					check(t, "behind it the one "+name, s, r)
					check(t, "behind it the other one "+name, p, o)
				}
			}
		}
	}
}

// 6.3: by hand, with an o that has numbers beyond the size of s.
func TestOrAndLessByHand(t *testing.T) {
	set := func(n int, b ...byte) *bits.Set[num] {
		s, e := bits.Of[num](n, b)
		if e != api.OK {
			t.Fatalf("Of(%d, %v): %d", n, b, e)
		}
		return s
	}
	small, great := set(5, 0b10010), set(12, 0b11100110, 0b1010)
	for _, one := range []struct {
		name string
		set  *bits.Set[num]
		want *bits.Set[num]
	}{
		{"small or great", small.Or(great), set(5, 0b10110)},
		{"great or small", great.Or(small), set(12, 0b11110110, 0b1010)},
		{"small less great", small.Less(great), set(5, 0b10000)},
		{"great less small", great.Less(small), set(12, 0b11100100, 0b1010)},
		{"small or itself", small.Or(small), small},
		{"great less itself", great.Less(great), set(12, 0, 0)},
		{"great or nil", great.Or(nil), great},
		{"great less nil", great.Less(nil), great},
	} {
		if !one.set.Same(one.want) || one.set.Size() != one.want.Size() || !slices.Equal(allOf(one.set), allOf(one.want)) {
			t.Errorf("%s: %v, not %v", one.name, allOf(one.set), allOf(one.want))
		}
	}
}

// 6.3: a nil o has nothing; a set with itself.
func TestOrAndLessOfNilAndItself(t *testing.T) {
	for _, n := range sizes() {
		for _, r := range rows(n) {
			s := setOf(t, r)
			check(t, "Or of nil", s.Or(nil), r)
			check(t, "Less of nil", s.Less(nil), r)
			check(t, "Or of itself", s.Or(s), r)
			check(t, "Less of itself", s.Less(s), make(row, n))
			check(t, "a set that was asked", s, r)
		}
	}
}

// 6.3: what Or and Less tell is a set by itself, of whatever o.
func TestOrAndLessByThemselves(t *testing.T) {
	for _, n := range []int{1, 8, 9, 65, 2048} {
		r := rowOf(n, func(i int) bool { return i%3 != 2 })
		q := rowOf(n, func(i int) bool { return i%4 == 0 })
		s, o := setOf(t, r), setOf(t, q)
		for name, told := range map[string]*bits.Set[num]{"or": s.Or(o), "less": s.Less(o), "or nil": s.Or(nil),
			"less nil": s.Less(nil), "or itself": s.Or(s), "less itself": s.Less(s)} {
			for i := range num(n) {
				if !told.Drop(i) {
					told.Put(i)
				}
			}
			check(t, "the one behind changes of "+name, s, r)
			check(t, "the other one behind changes of "+name, o, q)
		}
		or, less := s.Or(o), s.Less(nil)
		for i := range num(n) {
			if !s.Drop(i) {
				s.Put(i)
			}
			o.Drop(i)
		}
		check(t, "Or behind changes of both", or, orRow(r, q))
		check(t, "Less behind changes of both", less, r)
	}
}

// 6.3: sets that are one in size and numbers, and those that aren't.
func TestSame(t *testing.T) {
	for _, n := range sizes() {
		for at, r := range rows(n) {
			s := setOf(t, r)
			if p := setOf(t, r); !s.Same(p) || !p.Same(s) || !s.Same(s) {
				t.Fatalf("sets of the size %d with the same numbers aren't the same: %v", n, r.all())
			}
			for to, o := range rows(n) {
				if p := setOf(t, o); s.Same(p) != slices.Equal(r, o) {
					t.Fatalf("sets of the size %d, rows %d and %d: same %v", n, at, to, s.Same(p))
				}
			}
		}
	}
}

// 6.3: each number counts.
func TestSameByNumber(t *testing.T) {
	for _, n := range []int{1, 7, 8, 9, 65, 2047, 2048} {
		s, o := newSet(t, n), newSet(t, n)
		for i := range num(n) {
			s.Put(i)
			if s.Same(o) || o.Same(s) {
				t.Fatalf("sets of the size %d that differ in %d are the same", n, i)
			}
			o.Put(i)
			if !s.Same(o) || !o.Same(s) {
				t.Fatalf("sets of the size %d with all numbers to %d aren't the same", n, i)
			}
		}
	}
}

// 6.3: sets of two sizes aren't the same, also with the same numbers and
// bytes; of nil sets two are, one isn't.
func TestSameOfSizesAndNil(t *testing.T) {
	for _, n := range sizes() {
		s := newSet(t, n)
		full := setOf(t, rows(n)[1])
		for _, m := range []int{0, 1, 7, 8, 9, 10, 512, 2047, 2048} {
			o := newSet(t, m)
			if s.Same(o) != (n == m) || o.Same(s) != (n == m) {
				t.Errorf("empty sets of the sizes %d and %d: %v", n, m, s.Same(o))
			}
			o = setOf(t, rows(n)[1].cut(m))
			if full.Same(o) != (n == m) || o.Same(full) != (n == m) {
				t.Errorf("sets of the sizes %d and %d with the same numbers: %v", n, m, full.Same(o))
			}
		}
		if s.Same(nil) || full.Same(nil) || (*bits.Set[num])(nil).Same(s) || (*bits.Set[num])(nil).Same(full) {
			t.Errorf("a set of the size %d is the same as nil", n)
		}
	}
	if s := (*bits.Set[num])(nil); !s.Same(nil) {
		t.Error("two nil sets aren't the same")
	}
}
