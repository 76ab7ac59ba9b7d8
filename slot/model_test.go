package slot_test

import (
	"math"
	"slices"
	"sort"
	"strings"
	"testing"

	"hibernacle/api"
	"hibernacle/slot"
)

// plain is a page by the chapter's words: a list of its slots, with nil for
// one that is bare.
type plain []*string

// told is a slot with its record.
type told struct {
	i   int
	rec string
}

// raw is a page's bytes without the zeros behind them, however many they are.
func (x plain) raw() string {
	b := []byte{byte(len(x))}
	for _, rec := range x {
		n := 0
		if rec != nil {
			n = len(*rec) + 1
		}
		b = append(b, byte(n/256), byte(n%256))
	}
	for _, rec := range x {
		if rec != nil {
			b = append(b, *rec...)
		}
	}
	return string(b)
}

func (x plain) bytes() string {
	return x.raw() + strings.Repeat("\x00", 512-len(x.raw()))
}

func (x plain) get(i int) (string, bool) {
	if i < 0 || i >= len(x) || x[i] == nil {
		return "", false
	}
	return *x[i], true
}

// with is a copy whose slot i, or one behind the last, has a record.
func (x plain) with(i int, rec string) plain {
	y := slices.Clone(x)
	if i == len(y) {
		y = append(y, nil)
	}
	y[i] = &rec
	return y
}

func (x *plain) add(rec string) (int, api.Errno) {
	if len(rec) > 480 {
		return 0, api.ErrLong
	}
	i := slices.Index(*x, nil)
	if i < 0 {
		i = len(*x)
	}
	y := x.with(i, rec)
	if len(y) > 64 || len(y.raw()) > 512 {
		return 0, api.ErrFull
	}
	*x = y
	return i, api.OK
}

func (x *plain) put(i int, rec string) api.Errno {
	if _, full := x.get(i); !full {
		return api.ErrNone
	}
	if len(rec) > 480 {
		return api.ErrLong
	}
	y := x.with(i, rec)
	if len(y.raw()) > 512 {
		return api.ErrFull
	}
	*x = y
	return api.OK
}

func (x *plain) drop(i int) bool {
	if _, full := x.get(i); !full {
		return false
	}
	y := slices.Clone(*x)
	y[i] = nil
	for len(y) > 0 && y[len(y)-1] == nil {
		y = y[:len(y)-1]
	}
	*x = y
	return true
}

// room is found by trying, on copies.
func (x plain) room() int {
	return sort.Search(481, func(n int) bool {
		y := x
		_, e := y.add(text(n))
		return e != api.OK
	}) - 1
}

func (x plain) all() []told {
	var list []told
	for i, rec := range x {
		if rec != nil {
			list = append(list, told{i, *rec})
		}
	}
	return list
}

// plainOf is the page of bytes, if they are one's: it is taken off them as
// far as they go, and laid anew.
func plainOf(b string) (plain, api.Errno) {
	if len(b) < 512 {
		return nil, api.ErrEnd
	}
	if len(b) > 512 {
		return nil, api.ErrLong
	}
	var x plain
	n := int(b[0])
	at := 1 + 2*n
	for i := 0; i < n && 2+2*i < 512; i++ {
		size := int(b[1+2*i])*256 + int(b[2+2*i])
		if size == 0 {
			x = append(x, nil)
			continue
		}
		end := at + size - 1
		if size > 481 || end > 512 {
			return nil, api.ErrForm
		}
		rec := b[at:end]
		x, at = append(x, &rec), end
	}
	if len(x) > 64 || len(x) > 0 && x[len(x)-1] == nil || x.bytes() != b {
		return nil, api.ErrForm
	}
	return x, api.OK
}

// text is a record of so many bytes, zeros and bytes above 127 among them.
func text(n int) string {
	b := make([]byte, n)
	for i := range b {
		b[i] = byte((i + 1) * 37)
		if i%7 == 3 {
			b[i] = 0
		}
	}
	return string(b)
}

// slotsOf is a page of records of lengths, bare where one is below 0.
func slotsOf(lengths ...int) plain {
	var x plain
	for i, n := range lengths {
		if n < 0 {
			x = append(x, nil)
			continue
		}
		rec := text(n + i)[i:]
		x = append(x, &rec)
	}
	return x
}

// row is n slots of records of one length.
func row(n, length int) []int {
	return slices.Repeat([]int{length}, n)
}

// plains are pages that are empty, full, and between.
func plains() []plain {
	return []plain{
		slotsOf(),
		slotsOf(0), slotsOf(1), slotsOf(2), slotsOf(479), slotsOf(480),
		slotsOf(-1, 0), slotsOf(-1, 1), slotsOf(-1, -1, 480), slotsOf(append(row(63, -1), 0)...), slotsOf(append(row(63, -1), 383)...),
		slotsOf(3, -1, 5), slotsOf(-1, 3, -1, -1, 5), slotsOf(0, -1, 0, 7, -1, 9),
		// Full ones, and ones that lack a few bytes of it.
		slotsOf(480, 27), slotsOf(480, 26), slotsOf(480, 25), slotsOf(480, 24), slotsOf(480, 0, 0), slotsOf(27, 480), slotsOf(100, 200, 203), slotsOf(480, 23, 2),
		slotsOf(append(row(62, 5), 75)...), slotsOf(append(row(62, 5), 74)...), slotsOf(append(row(62, 5), 73)...), slotsOf(append(row(62, 5), 72)...),
		// Only a slot that is bare has room: a new one has none.
		slotsOf(480, -1, 25), slotsOf(480, -1, 24), slotsOf(480, -1, 23), slotsOf(480, -1, 22), slotsOf(-1, 480, 20), slotsOf(-1, -1, 480, 23), slotsOf(-1, -1, 480, 22),
		// 64 slots, all with records, and with one that is bare.
		slotsOf(row(64, 0)...), slotsOf(row(64, 5)...), slotsOf(append(row(63, 5), 68)...), slotsOf(append(row(63, 0), 383)...),
		slotsOf(append([]int{-1}, row(63, 0)...)...), slotsOf(append([]int{-1}, row(63, 6)...)...), slotsOf(append([]int{0, -1}, row(62, 6)...)...),
		slotsOf(append(append(row(62, 0), -1), 383)...), slotsOf(append(append(row(62, 0), -1), 382)...), slotsOf(append(append(row(62, 0), -1), 0)...),
		slotsOf(row(63, 0)...), slotsOf(append(row(62, 0), 385)...), slotsOf(append(row(62, 0), 384)...), slotsOf(append(row(62, 0), 383)...), slotsOf(append(row(62, 0), 382)...),
	}
}

// places are slots, at all edges, and numbers that are none.
func places() []int {
	list := []int{math.MinInt, math.MinInt + 1, -1 << 32, -256, -65, -64, -2, -1, 127, 128, 255, 256, 257, 511, 512, 1 << 16, 1 << 32,
		1<<32 + 1, math.MaxInt - 1, math.MaxInt}
	for i := range 67 {
		list = append(list, i)
	}
	return list
}

// pageOf is a page with slots as a plain one has them.
func pageOf(t *testing.T, x plain) *slot.Page {
	t.Helper()
	p := slot.New()
	for i := range x {
		rec, _ := x.get(i)
		if got, e := p.Add(rec); got != i || e != api.OK {
			t.Fatalf("Add of %d bytes: %d, %d, not %d", len(rec), got, e, i)
		}
	}
	for i, rec := range x {
		if rec == nil && !p.Drop(i) {
			t.Fatalf("Drop(%d): false", i)
		}
	}
	return p
}

// allOf is what All tells.
func allOf(p *slot.Page) []told {
	var list []told
	for i, rec := range p.All() {
		list = append(list, told{i, rec})
	}
	return list
}

// check asks that a page tells what a plain one has.
func check(t *testing.T, what string, p *slot.Page, x plain) {
	t.Helper()
	if got := p.Len(); got != len(x) {
		t.Fatalf("%s: Len: %d, not %d", what, got, len(x))
	}
	if got := p.Bytes(); got != x.bytes() {
		t.Fatalf("%s: Bytes:\n%q, not\n%q", what, got, x.bytes())
	}
	if got := p.Room(); got != x.room() {
		t.Fatalf("%s: Room: %d, not %d", what, got, x.room())
	}
	for _, i := range places() {
		rec, full := p.Get(i)
		if want, is := x.get(i); rec != want || full != is {
			t.Fatalf("%s: Get(%d): %q, %v, not %q, %v", what, i, rec, full, want, is)
		}
	}
	if got := allOf(p); !slices.Equal(got, x.all()) {
		t.Fatalf("%s: All: %v, not %v", what, got, x.all())
	}
}
