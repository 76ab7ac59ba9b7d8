package slot_test

import (
	"slices"
	"testing"

	"hibernacle/slot"
)

// 9.2: All tells slots with their records, rising, and may be left amid the
// loop, and ranged over twice.
func TestAll(t *testing.T) {
	for _, x := range plains() {
		p := pageOf(t, x)
		all := p.All()
		for stop := range len(x.all()) {
			var got []told
			for i, rec := range all {
				got = append(got, told{i, rec})
				if len(got) > stop {
					break
				}
			}
			if !slices.Equal(got, x.all()[:stop+1]) {
				t.Fatalf("All, left at %d: %v", stop, got)
			}
		}
		for range 2 {
			var got []told
			for i, rec := range all {
				got = append(got, told{i, rec})
			}
			if !slices.Equal(got, x.all()) {
				t.Fatalf("All: %v, not %v", got, x.all())
			}
		}
		check(t, "a page that was gone over", p, x)
	}
}

// 9.2: two loops over one function, one in the other.
func TestAllTwiceAtOnce(t *testing.T) {
	x := slotsOf(2, -1, 3, 0)
	all := pageOf(t, x).All()
	n := 0
	for range all {
		for i, rec := range all {
			if want := x.all()[n%3]; want != (told{i, rec}) {
				t.Fatalf("the %d. slot: %d, %q", n, i, rec)
			}
			n++
		}
	}
	if n != 9 {
		t.Fatalf("%d slots in all", n)
	}
}

// 9.2, and the rule that what is told is new memory: All tells what the page
// had when it was asked for, whatever is done to it later or amid the loop.
func TestAllStays(t *testing.T) {
	x := slotsOf(2, -1, 3, 0)
	p := pageOf(t, x)
	all := p.All()
	p.Drop(0)
	p.Put(2, "changed")
	p.Add("added")
	var got []told
	for i, rec := range all {
		got = append(got, told{i, rec})
		p.Drop(i)
		p.Drop(3)
	}
	if !slices.Equal(got, x.all()) || p.Len() != 0 {
		t.Fatalf("All: %v, not %v", got, x.all())
	}
	all = slot.New().All()
	for i, rec := range all {
		t.Fatalf("All of an empty page: %d, %q", i, rec)
	}
}
