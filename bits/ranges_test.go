package bits_test

import (
	"fmt"
	"slices"
	"testing"

	"hibernacle/api"
	"hibernacle/bits"
)

// 6.3: All and Runs of sets that are empty, full, of one number, of runs at
// both ends, and of every second number; ranged over twice.
func TestRanges(t *testing.T) {
	for _, n := range sizes() {
		for _, r := range rows(n) {
			s := setOf(t, r)
			all, runs := s.All(), s.Runs()
			for range 2 {
				var numbers []num
				for i := range all {
					numbers = append(numbers, i)
				}
				var list []run
				for first, size := range runs {
					list = append(list, run{first, size})
				}
				if !slices.Equal(numbers, r.all()) || !slices.Equal(list, r.runs()) {
					t.Fatalf("a set of the size %d: %v, %v, asked for %v, %v", n, numbers, list, r.all(), r.runs())
				}
			}
			check(t, "a set that was ranged over", s, r)
		}
	}
}

// 6.3: runs by hand.
func TestRunsByHand(t *testing.T) {
	for _, one := range []struct {
		n    int
		b    []byte
		want string
	}{
		{0, nil, "[]"},
		{1, []byte{0}, "[]"},
		{1, []byte{1}, "[{0 1}]"},
		{8, []byte{0xff}, "[{0 8}]"},
		{8, []byte{0x80}, "[{7 1}]"},
		{8, []byte{0x81}, "[{0 1} {7 1}]"},
		{8, []byte{0x55}, "[{0 1} {2 1} {4 1} {6 1}]"},
		{8, []byte{0xaa}, "[{1 1} {3 1} {5 1} {7 1}]"},
		{9, []byte{0xff, 1}, "[{0 9}]"},
		{9, []byte{0x80, 1}, "[{7 2}]"},
		{16, []byte{0xf0, 0x0f}, "[{4 8}]"},
		{16, []byte{0x0f, 0xf0}, "[{0 4} {12 4}]"},
		{20, []byte{0xc0, 0xff, 0x09}, "[{6 11} {19 1}]"},
		{24, []byte{0xff, 0, 0xff}, "[{0 8} {16 8}]"},
	} {
		s, e := bits.Of[num](one.n, one.b)
		if got := fmt.Sprint(runsOf(s)); e != api.OK || got != one.want {
			t.Errorf("runs of %v: %s, %d, asked for %s", one.b, got, e, one.want)
		}
	}
}

// 6.3: a loop that is left tells no more, and the next one begins anew.
func TestLeftAmidTheLoop(t *testing.T) {
	for _, n := range []int{1, 8, 9, 65, 2048} {
		for _, r := range rows(n) {
			s := setOf(t, r)
			all, runs := s.All(), s.Runs()
			for stop := 1; stop <= len(r.all()) && stop < 12; stop++ {
				var got []num
				for i := range all {
					if got = append(got, i); len(got) == stop {
						break
					}
				}
				if !slices.Equal(got, r.all()[:stop]) {
					t.Fatalf("left behind %d numbers: %v, asked for %v", stop, got, r.all()[:stop])
				}
			}
			for stop := 1; stop <= len(r.runs()) && stop < 12; stop++ {
				var got []run
				for first, size := range runs {
					if got = append(got, run{first, size}); len(got) == stop {
						break
					}
				}
				if !slices.Equal(got, r.runs()[:stop]) {
					t.Fatalf("left behind %d runs: %v, asked for %v", stop, got, r.runs()[:stop])
				}
			}
			check(t, "a set whose loops were left", s, r)
		}
	}
}

// 6.3: the same ranged over in itself.
func TestRangesInOneAnother(t *testing.T) {
	s := setOf(t, rowOf(20, func(i int) bool { return i%4 == 1 }))
	all, n := s.All(), 0
	for i := range all {
		for j := range all {
			n += int(i) * int(j)
		}
	}
	if n != (1+5+9+13+17)*(1+5+9+13+17) {
		t.Errorf("the sum of products: %d", n)
	}
}

// Rules, 'Memory': what was told shares nothing with the set, and is as it
// was whatever the set is changed to, also amid the loop.
func TestRangesOfASetThatChanges(t *testing.T) {
	r := rowOf(40, func(i int) bool { return i%5 < 2 })
	s := setOf(t, r)
	all, runs := s.All(), s.Runs()
	var numbers []num
	for i := range all {
		numbers = append(numbers, i)
		s.Drop(i)
		s.Put(i + 1)
		s.Put(i + 2)
	}
	var list []run
	for first, size := range runs {
		list = append(list, run{first, size})
		s.Drop(first)
		s.Put(first + num(size))
	}
	if !slices.Equal(numbers, r.all()) || !slices.Equal(list, r.runs()) {
		t.Errorf("told of a set that changes: %v, %v, asked for %v, %v", numbers, list, r.all(), r.runs())
	}
}
