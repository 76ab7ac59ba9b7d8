package bits_test

import (
	"bytes"
	"fmt"
	"math"
	"slices"
	"testing"

	"hibernacle/api"
	"hibernacle/bits"
)

// num is a kind of numbers by itself.
type num int

// row is what a set of its length has, by the chapter's words.
type row []bool

// run is numbers side by side.
type run struct {
	first num
	size  int
}

func (r row) has(i num) bool {
	return 0 <= i && i < num(len(r)) && r[i]
}

func (r row) put(i num) bool {
	if i < 0 || i >= num(len(r)) || r[i] {
		return false
	}
	r[i] = true
	return true
}

func (r row) drop(i num) bool {
	if !r.has(i) {
		return false
	}
	r[i] = false
	return true
}

// find is the least number from some on of which it is told whether a set has
// it.
func (r row) find(i num, has bool) num {
	for j := range r {
		if num(j) >= i && r[j] == has {
			return num(j)
		}
	}
	return -1
}

func (r row) all() []num {
	var list []num
	for i, has := range r {
		if has {
			list = append(list, num(i))
		}
	}
	return list
}

func (r row) runs() []run {
	var list []run
	for i, has := range r {
		switch {
		case has && i > 0 && r[i-1]:
			list[len(list)-1].size++
		case has:
			list = append(list, run{num(i), 1})
		}
	}
	return list
}

func (r row) bytes() []byte {
	b := make([]byte, (len(r)+7)/8)
	for i, has := range r {
		if has {
			b[i/8] += 1 << (i % 8)
		}
	}
	return b
}

// cut is a row of another length that has what this one has within it.
func (r row) cut(n int) row {
	c := make(row, n)
	copy(c, r)
	return c
}

// rowOf is a row of a length that has some numbers.
func rowOf(n int, is func(i int) bool) row {
	r := make(row, n)
	for i := range r {
		r[i] = is(i)
	}
	return r
}

// sizes are sizes that may be.
func sizes() []int {
	return []int{0, 1, 2, 7, 8, 9, 10, 15, 16, 17, 63, 64, 65, 512, 1000, 2047, 2048}
}

// extremes are numbers that no set has.
func extremes() []num {
	return []num{math.MinInt, math.MinInt + 1, -1 << 32, -2049, -2048, -9, -8, -7, -2, -1, 2048, 2049, 2055, 2056, 4096,
		1 << 31, 1 << 32, 1<<32 + 1, 1 << 62, math.MaxInt - 8, math.MaxInt - 7, math.MaxInt - 1, math.MaxInt}
}

// rows are rows of a length that are empty, full, and between.
func rows(n int) []row {
	none := func(int) bool { return false }
	list := []row{rowOf(n, none), rowOf(n, func(int) bool { return true })}
	for _, k := range []int{2, 3, 7, 8, 9, 40} {
		list = append(list, rowOf(n, func(i int) bool { return i%k == 0 }), rowOf(n, func(i int) bool { return i%k == k-1 }),
			rowOf(n, func(i int) bool { return i%k != k/2 }), rowOf(n, func(i int) bool { return i/k%2 == 0 }),
			rowOf(n, func(i int) bool { return i < k || i >= n-k }), rowOf(n, func(i int) bool { return i >= k && i < n-k }))
	}
	for _, at := range []int{0, 1, 7, 8, n / 2, n - 2, n - 1} {
		list = append(list, rowOf(n, func(i int) bool { return i == at }), rowOf(n, func(i int) bool { return i != at }))
	}
	return list
}

func newSet(t *testing.T, n int) *bits.Set[num] {
	t.Helper()
	s, e := bits.New[num](n)
	if e != api.OK || s == nil {
		t.Fatalf("New(%d): %v, %d", n, s, e)
	}
	return s
}

// setOf is the set of a row, made by Put.
func setOf(t *testing.T, r row) *bits.Set[num] {
	t.Helper()
	s := newSet(t, len(r))
	for _, i := range r.all() {
		if !s.Put(i) {
			t.Fatalf("Put(%d) of a set of the size %d: false", i, len(r))
		}
	}
	return s
}

func allOf(s *bits.Set[num]) []num {
	var list []num
	for i := range s.All() {
		list = append(list, i)
	}
	return list
}

func runsOf(s *bits.Set[num]) []run {
	var list []run
	for first, size := range s.Runs() {
		list = append(list, run{first, size})
	}
	return list
}

// check asks that a set is as a row, in all that tells of it as a whole.
func check(t *testing.T, name string, s *bits.Set[num], r row) {
	t.Helper()
	if s.Size() != len(r) || s.Count() != len(r.all()) || !bytes.Equal(s.Bytes(), r.bytes()) {
		t.Fatalf("%s: size %d, count %d, bytes %v, asked for %d, %d, %v", name, s.Size(), s.Count(), s.Bytes(), len(r),
			len(r.all()), r.bytes())
	}
	if got, want := allOf(s), r.all(); !slices.Equal(got, want) {
		t.Fatalf("%s: All tells %v, not %v", name, got, want)
	}
	if got, want := runsOf(s), r.runs(); !slices.Equal(got, want) {
		t.Fatalf("%s: Runs tells %v, not %v", name, got, want)
	}
}

// checkNumber asks what a set tells of a number.
func checkNumber(t *testing.T, name string, s *bits.Set[num], r row, i num) {
	t.Helper()
	if s.Has(i) != r.has(i) || s.Next(i) != r.find(i, true) || s.Gap(i) != r.find(i, false) {
		t.Fatalf("%s of the size %d: of %d has %v, next %d, gap %d, asked for %v, %d, %d", name, len(r), i, s.Has(i), s.Next(i),
			s.Gap(i), r.has(i), r.find(i, true), r.find(i, false))
	}
}

// 6.1 to 6.3: the chapter's example.
func TestExample(t *testing.T) {
	s, e := bits.New[int](10)
	if e != api.OK || !s.Put(1) || !s.Put(2) || !s.Put(9) {
		t.Fatalf("New and Put: %d", e)
	}
	if got := s.Bytes(); !bytes.Equal(got, []byte{6, 2}) {
		t.Errorf("bytes %v", got)
	}
	var got []int
	for first, size := range s.Runs() {
		got = append(got, first, size)
	}
	if !slices.Equal(got, []int{1, 2, 9, 1}) {
		t.Errorf("runs %v", got)
	}
}

// 6.1: sizes that may be, also just at their bounds.
func TestNew(t *testing.T) {
	for _, n := range sizes() {
		s := newSet(t, n)
		check(t, "a new set", s, make(row, n))
		if len(s.Bytes()) != (n+7)/8 {
			t.Errorf("a set of the size %d has %d bytes", n, len(s.Bytes()))
		}
	}
}

// 6.1: sizes that may not be, whatever bytes there are.
func TestSizesThatMayNotBe(t *testing.T) {
	for _, n := range []int{math.MinInt, math.MinInt + 1, -1 << 32, -2048, -16, -8, -7, -1, 2049, 2050, 2056, 4096, 1 << 32,
		1<<32 + 8, math.MaxInt - 7, math.MaxInt} {
		if s, e := bits.New[num](n); s != nil || e != api.ErrArg {
			t.Errorf("New(%d): %v, %d", n, s, e)
		}
		for _, size := range []int{0, 1, 2, 255, 256, 257, 512} {
			for _, fill := range []byte{0, 1, 0xff} {
				if s, e := bits.Of[num](n, bytes.Repeat([]byte{fill}, size)); s != nil || e != api.ErrArg {
					t.Errorf("Of(%d) of %d bytes: %v, %d", n, size, s, e)
				}
			}
		}
		if s, e := bits.Of[num](n, nil); s != nil || e != api.ErrArg {
			t.Errorf("Of(%d) of no bytes: %v, %d", n, s, e)
		}
	}
}

// 6.1: the bytes of sets that are empty, full, and between.
func TestOf(t *testing.T) {
	for _, n := range sizes() {
		for _, r := range rows(n) {
			s, e := bits.Of[num](n, r.bytes())
			if e != api.OK {
				t.Fatalf("Of(%d, %v): %d", n, r.bytes(), e)
			}
			check(t, "a set of bytes", s, r)
			check(t, "a set that numbers were put in", setOf(t, r), r)
		}
	}
}

// checkOf asks that bytes are refused, and are as they were.
func checkOf(t *testing.T, n int, b []byte, want api.Errno) {
	t.Helper()
	before := bytes.Clone(b)
	if s, e := bits.Of[num](n, b); s != nil || e != want {
		t.Fatalf("Of(%d, %v): %v, %d, asked for %d", n, b, s, e, want)
	}
	if !bytes.Equal(b, before) {
		t.Fatalf("Of(%d, %v) changed it to %v", n, before, b)
	}
}

// 6.1: one byte more, and one fewer, and far more and fewer, whatever they
// have.
func TestOfTooManyAndTooFew(t *testing.T) {
	for _, n := range sizes() {
		need := (n + 7) / 8
		for _, fill := range []byte{0, 1, 0x80, 0xff} {
			for _, more := range []int{1, 2, 8, 256, 2048} {
				checkOf(t, n, bytes.Repeat([]byte{fill}, need+more), api.ErrLong)
			}
			for size := range need {
				checkOf(t, n, bytes.Repeat([]byte{fill}, size), api.ErrEnd)
			}
		}
		if need > 0 {
			checkOf(t, n, nil, api.ErrEnd)
		}
	}
	for _, b := range [][]byte{nil, {}} {
		s, e := bits.Of[num](0, b)
		if e != api.OK {
			t.Fatalf("Of(0, %v): %d", b, e)
		}
		check(t, "a set of no bytes", s, nil)
	}
}

// 6.1: each bit beyond the size, in bytes that are empty and full else.
func TestOfBitsBeyond(t *testing.T) {
	for n := 1; n <= 2048; n++ {
		for _, has := range []bool{false, true} {
			b := rowOf(n, func(int) bool { return has }).bytes()
			if s, e := bits.Of[num](n, b); e != api.OK || s.Count() != len(rowOf(n, func(int) bool { return has }).all()) {
				t.Fatalf("Of(%d, %v): %d, %d", n, b, s.Count(), e)
			}
			for bit := (n-1)%8 + 1; bit < 8; bit++ {
				c := bytes.Clone(b)
				c[len(c)-1] |= 1 << bit
				checkOf(t, n, c, api.ErrForm)
			}
			if n%8 != 0 {
				b[len(b)-1] = 0xff
				checkOf(t, n, b, api.ErrForm)
			}
		}
	}
}

// 6.1: what was handed in may be changed, and what was told; no two answers
// share any.
func TestBytesAreCopies(t *testing.T) {
	for _, n := range []int{1, 8, 9, 2047, 2048} {
		r := rowOf(n, func(i int) bool { return i%3 != 1 })
		in := r.bytes()
		s, e := bits.Of[num](n, in)
		if e != api.OK {
			t.Fatalf("Of(%d): %d", n, e)
		}
		for i := range in {
			in[i] ^= 0xff
		}
		check(t, "a set whose bytes were changed behind Of", s, r)
		one, two := s.Bytes(), s.Bytes()
		for i := range one {
			one[i] ^= 0xff
		}
		_ = append(one[:0], in...)
		if !bytes.Equal(two, r.bytes()) {
			t.Errorf("two answers share bytes: %v", two)
		}
		check(t, "a set whose bytes were changed behind Bytes", s, r)
		s.Drop(0)
		if !bytes.Equal(two, r.bytes()) {
			t.Errorf("what was told changed with the set: %v", two)
		}
	}
}

// 6.2: each number put twice and dropped twice, in a set that has nothing
// else, and in one that has all others.
func TestPutAndDrop(t *testing.T) {
	for _, n := range []int{1, 2, 7, 8, 9, 10, 16, 17, 65, 2047, 2048} {
		s, full := newSet(t, n), setOf(t, rowOf(n, func(int) bool { return true }))
		for i := range num(n) {
			name := fmt.Sprintf("of %d in a set of the size %d", i, n)
			if s.Has(i) || s.Drop(i) || !s.Put(i) || !s.Has(i) || s.Put(i) || !s.Has(i) || s.Count() != 1 {
				t.Fatalf("Put %s", name)
			}
			if !s.Drop(i) || s.Has(i) || s.Drop(i) || s.Has(i) || s.Count() != 0 {
				t.Fatalf("Drop %s", name)
			}
			if full.Put(i) || !full.Drop(i) || full.Drop(i) || full.Has(i) || full.Count() != n-1 || full.Gap(0) != i {
				t.Fatalf("Drop %s that is full", name)
			}
			if !full.Put(i) || full.Put(i) || !full.Has(i) || full.Count() != n {
				t.Fatalf("Put %s that is full", name)
			}
		}
	}
}

// 6.2: what is no number of a set isn't in it, isn't put, and isn't dropped.
func TestStrangers(t *testing.T) {
	for _, n := range sizes() {
		for _, r := range rows(n)[:2] {
			s := setOf(t, r)
			for _, i := range append(extremes(), num(n), num(n)+1, num(n)+7, num(n)+8, 2*num(n)) {
				if 0 <= i && i < num(n) {
					continue
				}
				for range 2 {
					if s.Has(i) || s.Put(i) || s.Has(i) || s.Drop(i) {
						t.Fatalf("a set of the size %d has %d", n, i)
					}
				}
			}
			check(t, "a set that strangers were put in", s, r)
		}
	}
}

// 6.2: of each number from below 0 to beyond the size, and of extremes.
func TestNextAndGap(t *testing.T) {
	for _, n := range []int{0, 1, 2, 7, 8, 9, 10, 15, 16, 17, 65} {
		for _, r := range rows(n) {
			s := setOf(t, r)
			for i := num(-20); i < num(n)+20; i++ {
				checkNumber(t, "a set", s, r, i)
			}
			for _, i := range extremes() {
				checkNumber(t, "a set", s, r, i)
			}
			check(t, "a set that was asked", s, r)
		}
	}
	for _, n := range []int{512, 2047, 2048} {
		for _, r := range rows(n) {
			s := setOf(t, r)
			for _, i := range append(extremes(), 0, 1, 7, 8, 9, 255, 256, num(n)-9, num(n)-2, num(n)-1, num(n), num(n)+1) {
				checkNumber(t, "a set", s, r, i)
			}
		}
	}
}

// 6.2: a set without a gap tells none, nor one that is empty a next one.
func TestNoNextAndNoGap(t *testing.T) {
	for n := range 2049 {
		s := newSet(t, n)
		full, e := bits.Of[num](n, rowOf(n, func(int) bool { return true }).bytes())
		if e != api.OK {
			t.Fatalf("Of(%d): %d", n, e)
		}
		first := num(0)
		if n == 0 {
			first = -1
		}
		if s.Next(0) != -1 || s.Gap(0) != first || full.Gap(0) != -1 || full.Next(0) != first || s.Gap(num(n)) != -1 ||
			full.Next(num(n)) != -1 || full.Count() != n {
			t.Fatalf("a set of the size %d: next %d, gap %d; full: %d, %d, count %d", n, s.Next(0), s.Gap(0), full.Next(0),
				full.Gap(0), full.Count())
		}
	}
}

// 6.3: a nil set tells nothing, and takes nothing.
func TestNilSet(t *testing.T) {
	var s *bits.Set[num]
	for _, i := range append(extremes(), 0, 1, 7, 8) {
		if s.Has(i) || s.Put(i) || s.Drop(i) || s.Next(i) != -1 || s.Gap(i) != -1 {
			t.Errorf("a nil set tells something of %d", i)
		}
	}
	if s.Size() != 0 || s.Count() != 0 || s.Bytes() != nil {
		t.Errorf("a nil set: size %d, count %d, bytes %v", s.Size(), s.Count(), s.Bytes())
	}
	for i := range s.All() {
		t.Errorf("a nil set tells %d", i)
	}
	for first, size := range s.Runs() {
		t.Errorf("a nil set tells a run %d, %d", first, size)
	}
	for _, o := range []*bits.Set[num]{nil, newSet(t, 0), newSet(t, 9)} {
		o.Put(1)
		if s.Or(o) != nil || s.Less(o) != nil {
			t.Error("a nil set and another one have something")
		}
	}
}
