package table_test

import (
	"math/rand"
	"slices"
	"testing"

	"hibernacle/api"
	"hibernacle/table"
)

// oneOf is one of a list, taken at will.
func oneOf(from *rand.Rand, list []int) int {
	return list[from.Intn(len(list))]
}

// logical is a logical page, now and then none.
func logical(from *rand.Rand) int {
	if from.Intn(10) == 0 {
		return oneOf(from, logicals())
	}
	return from.Intn(516) - 2
}

// bytesOf is a page of bytes, mostly a leaf's.
func bytesOf(from *rand.Rand, r row) []byte {
	b := r.leaf(from.Intn(4))
	switch from.Intn(5) {
	case 0:
		b = sound()
	case 1:
		copy(b[from.Intn(128)*4:], faults()[from.Intn(len(faults()))])
	case 2:
		b = append(b, b...)[:from.Intn(1025)]
	}
	return b
}

// step does one thing to a table and to a row, and asks that both tell one
// answer.
func step(t *testing.T, from *rand.Rand, x *table.Table, r *row) {
	t.Helper()
	l := logical(from)
	switch from.Intn(8) {
	case 0, 1, 2, 3:
		page := 2 + from.Intn(510)
		if from.Intn(8) == 0 {
			page = oneOf(from, pages())
		}
		if got, want := x.Set(l, page), r.set(l, page); got != want {
			t.Fatalf("Set(%d, %d): %d, not %d", l, page, got, want)
		}
	case 4, 5:
		if got, want := x.Drop(l), r.drop(l); got != want {
			t.Fatalf("Drop(%d): %v", l, got)
		}
	case 6:
		if from.Intn(6) > 0 {
			break
		}
		i, b := from.Intn(6)-1, bytesOf(from, *r)
		if got, want := x.Load(i, b), r.load(i, b); got != want {
			t.Fatalf("Load(%d) of %v: %d, not %d", i, b, got, want)
		}
	}
	checkPage(t, "a table amid steps", x, *r, l)
}

// 7.1, 7.2: any steps one behind the other, held against rows; a table, and
// what it was copied of.
func TestAnySteps(t *testing.T) {
	from := rand.New(rand.NewSource(71))
	for range 60 {
		x, r := table.New(), row{}
		o, was := x.Copy(), r
		for range 300 {
			step(t, from, x, &r)
			if from.Intn(3) == 0 {
				step(t, from, o, &was)
			}
			if got, want := x.Changed(o), r.changed(&was); !slices.Equal(got, want) {
				t.Fatalf("Changed: %v, not %v", got, want)
			}
			if from.Intn(40) == 0 {
				o, was = x.Copy(), r
			}
		}
		check(t, "a table behind steps", x, r)
		check(t, "a copy behind steps", o, was)
	}
}

// 7.4: a table is made of its leaves' bytes, in whatever order they are
// loaded.
func TestTableIsItsLeaves(t *testing.T) {
	for _, r := range rows() {
		x := tableOf(t, r)
		for _, order := range [][]int{{0, 1, 2, 3}, {3, 2, 1, 0}, {2, 0, 3, 1}} {
			again := table.New()
			for _, i := range order {
				if e := again.Load(i, x.Leaf(i)); e != api.OK {
					t.Fatalf("Load(%d) of what Leaf told: %d", i, e)
				}
			}
			check(t, "a table of another one's leaves", again, r)
			if got := again.Changed(x); len(got) != 0 {
				t.Fatalf("Changed of a table of another one's leaves: %v", got)
			}
		}
	}
}

// 7.4: bytes that Load takes are what Leaf tells then.
func TestLeafTellsWhatWasLoaded(t *testing.T) {
	from := rand.New(rand.NewSource(74))
	for range 200 {
		x := tableOf(t, rows()[from.Intn(len(rows()))])
		told := make([]int, 128)
		for j := range told {
			if from.Intn(3) > 0 {
				told[j] = 2 + from.Intn(510)
			}
		}
		i, b := from.Intn(4), pagesAs(told)
		if e := x.Load(i, b); e != api.OK || !slices.Equal(x.Leaf(i), b) {
			t.Fatalf("Leaf(%d) of what was loaded: %v, %d, not %v", i, x.Leaf(i), e, b)
		}
	}
}

// 7.4: what is told of a logical page hangs on its own leaf alone: whatever is
// done to the other ones.
func TestOwnLeafAlone(t *testing.T) {
	from := rand.New(rand.NewSource(75))
	for range 60 {
		own := from.Intn(4)
		start := rows()[from.Intn(len(rows()))]
		x, r := tableOf(t, start), start
		for range 100 {
			o, s := x.Copy(), r
			step(t, from, o, &s)
			if slices.Equal(s.leaf(own), start.leaf(own)) {
				x, r = o, s
			}
		}
		for l := own * 128; l < own*128+128; l++ {
			page, told := x.Get(l)
			if want, is := start.get(l); page != want || told != is {
				t.Fatalf("Get(%d) behind changes of other leaves: %d, %v", l, page, told)
			}
		}
		if !slices.Equal(x.Leaf(own), start.leaf(own)) || x.Bare(own) != start.bare(own) {
			t.Fatalf("the leaf %d behind changes of other leaves", own)
		}
	}
}
