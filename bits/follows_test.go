package bits_test

import (
	"math/rand"
	"testing"

	"hibernacle/api"
	"hibernacle/bits"
)

// pick is a number that is mostly a set's own, sometimes just beyond.
func pick(from *rand.Rand, n int) num {
	if from.Intn(12) == 0 {
		list := extremes()
		return list[from.Intn(len(list))]
	}
	return num(from.Intn(n+4) - 2)
}

// step does one thing to a set and to a row, and asks that both tell one
// answer.
func step(t *testing.T, from *rand.Rand, s *bits.Set[num], r row, i num) {
	t.Helper()
	for range 1 + from.Intn(2) {
		switch from.Intn(5) {
		case 0, 1:
			if got, want := s.Put(i), r.put(i); got != want {
				t.Fatalf("Put(%d) of the size %d: %v", i, len(r), got)
			}
		case 2:
			if got, want := s.Drop(i), r.drop(i); got != want {
				t.Fatalf("Drop(%d) of the size %d: %v", i, len(r), got)
			}
		default:
			checkNumber(t, "a set amid steps", s, r, i)
		}
	}
}

// 6.1 to 6.3: any steps one behind the other, held against rows.
func TestAnySteps(t *testing.T) {
	from := rand.New(rand.NewSource(61))
	for range 400 {
		n, m := sizes()[from.Intn(len(sizes()))], from.Intn(80)
		r, o := make(row, n), make(row, m)
		s, p := setOf(t, r), setOf(t, o)
		for range 60 {
			step(t, from, s, r, pick(from, n))
			step(t, from, p, o, pick(from, m))
			switch from.Intn(8) {
			case 0:
				s, r = s.Or(p), orRow(r, o)
			case 1:
				s, r = s.Less(p), lessRow(r, o)
			case 2:
				p, o = p.Or(s), orRow(o, r)
			case 3:
				if again, e := bits.Of[num](n, s.Bytes()); e != api.OK || !again.Same(s) || !s.Same(again) {
					t.Fatalf("a set isn't made of its bytes: %v, %d", s.Bytes(), e)
				}
			}
		}
		check(t, "the one behind steps", s, r)
		check(t, "the other one behind steps", p, o)
	}
}

// 6.4: a set is made of its bytes, and bytes of sets that are the same are
// the same.
func TestMadeOfItsBytes(t *testing.T) {
	for _, n := range sizes() {
		for _, r := range rows(n) {
			s := setOf(t, r)
			again, e := bits.Of[num](s.Size(), s.Bytes())
			if e != api.OK || !again.Same(s) {
				t.Fatalf("a set of the size %d isn't made of its bytes: %d", n, e)
			}
			check(t, "a set of a set's bytes", again, r)
		}
	}
}

// 6.4: each number from 0 to the size less one is either its own next one or
// its own gap, and what is between is the other one.
func TestNextAndGapPartTheNumbers(t *testing.T) {
	from := rand.New(rand.NewSource(64))
	for _, n := range sizes() {
		list := rows(n)
		for range 20 {
			part := 1 + from.Intn(30)
			list = append(list, rowOf(n, func(int) bool { return from.Intn(part) == 0 }))
		}
		for _, r := range list {
			s := setOf(t, r)
			for i := range num(n) {
				next, gap := s.Next(i), s.Gap(i)
				if (next == i) == (gap == i) || (next == i) != s.Has(i) {
					t.Fatalf("of %d in a set of the size %d: next %d, gap %d", i, n, next, gap)
				}
				if next != i && next != s.Next(i+1) || gap != i && gap != s.Gap(i+1) {
					t.Fatalf("of %d in a set of the size %d: next %d, gap %d, of the one behind it %d, %d", i, n, next, gap,
						s.Next(i+1), s.Gap(i+1))
				}
			}
		}
	}
}

// 6.1 to 6.3: numbers of several kinds.
func TestKindsOfNumbers(t *testing.T) {
	type page int
	type slot int
	pages, e := bits.New[page](512)
	slots, f := bits.Of[slot](12, []byte{0xff, 7})
	if e != api.OK || f != api.OK {
		t.Fatalf("New and Of: %d, %d", e, f)
	}
	var first page = pages.Gap(2)
	pages.Put(first)
	var last slot = slots.Gap(0)
	if first != 2 || last != 11 || pages.Next(0) != first || pages.Count() != 1 || slots.Count() != 11 {
		t.Errorf("pages from %d, %d of them; slots but %d, %d of them", first, pages.Count(), last, slots.Count())
	}
}
