package store_test

import (
	"maps"
	"math"
	"slices"
	"strings"
	"testing"

	"hibernacle/api"
	"hibernacle/disk"
	"hibernacle/pager"
	"hibernacle/store"
)

// plain is a store by the chapter's words: things by their numbers, and where
// on which pages all of it lies.
type plain struct {
	things map[int]string
	// at is the page and the slot of a thing's record, long the pages that
	// have its bytes.
	at   map[int][2]int
	long map[int][]int
	// parts is the pages of the table's parts, slots what lies on the pages
	// with records.
	parts []int
	slots map[int][]*string
}

func newPlain() *plain {
	return &plain{map[int]string{}, map[int][2]int{}, map[int][]int{}, nil, map[int][]*string{}}
}

// clone is a store by itself that has the same.
func (x *plain) clone() *plain {
	y := &plain{maps.Clone(x.things), maps.Clone(x.at), maps.Clone(x.long), slices.Clone(x.parts), map[int][]*string{}}
	for l, row := range x.slots {
		y.slots[l] = slices.Clone(row)
	}
	return y
}

// used is the pages that there are; 512 stands for one that there isn't.
func (x *plain) used() [513]bool {
	used := [513]bool{0: true}
	for _, l := range x.parts {
		used[l] = true
	}
	for _, row := range x.long {
		for _, l := range row {
			used[l] = true
		}
	}
	for l := range x.slots {
		used[l] = true
	}
	return used
}

// alloc is the least page that isn't there, 512 if there is none.
func (x *plain) alloc() int {
	used := x.used()
	for l := range 512 {
		if !used[l] {
			return l
		}
	}
	return 512
}

// size is how many bytes a page of slots needs.
func size(row []*string) int {
	n := 1 + 2*len(row)
	for _, rec := range row {
		if rec != nil {
			n += len(*rec)
		}
	}
	return n
}

// with is slots with a record more, and its slot; none if they don't fit.
func with(row []*string, rec string) ([]*string, int) {
	row = slices.Clone(row)
	i := slices.Index(row, nil)
	if i < 0 {
		i = len(row)
		row = append(row, nil)
	}
	row[i] = &rec
	if len(row) > 64 || size(row) > 512 {
		return nil, 0
	}
	return row, i
}

// number is n in bytes, the highest first.
func number(n, bytes int) string {
	s := ""
	for range bytes {
		s = string([]byte{byte(n % 256)}) + s
		n /= 256
	}
	return s
}

// lay has a number's record laid; it tells whether there were pages enough.
// The number has no other one.
func (x *plain) lay(n int, data string) bool {
	if (n-1)/128 == len(x.parts) {
		x.parts = append(x.parts, x.alloc())
	}
	rec := "\x00" + data
	if len(data) > 479 {
		rec = "\x01" + number(len(data), 4)
		for at := 0; at < len(data); at += 512 {
			l := x.alloc()
			x.long[n] = append(x.long[n], l)
			rec += number(l, 2)
		}
	}
	x.things[n] = data
	for _, l := range slices.Sorted(maps.Keys(x.slots)) {
		if row, i := with(x.slots[l], rec); row != nil {
			x.slots[l], x.at[n] = row, [2]int{l, i}
			return !x.used()[512]
		}
	}
	l := x.alloc()
	x.slots[l], x.at[n] = []*string{&rec}, [2]int{l, 0}
	return !x.used()[512]
}

func (x *plain) add(data string) (int, api.Errno) {
	if len(data) > 16384 {
		return 0, api.ErrLong
	}
	n := 1
	for n <= 8192 && x.has(n) {
		n++
	}
	y := x.clone()
	if n > 8192 || !y.lay(n, data) {
		return 0, api.ErrFull
	}
	*x = *y
	return n, api.OK
}

func (x *plain) has(n int) bool {
	_, there := x.things[n]
	return there
}

func (x *plain) get(n int) (string, api.Errno) {
	if !x.has(n) {
		return "", api.ErrNone
	}
	return x.things[n], api.OK
}

func (x *plain) put(n int, data string) api.Errno {
	if !x.has(n) {
		return api.ErrNone
	}
	if len(data) > 16384 {
		return api.ErrLong
	}
	// The old record stands, under a number of its own, till the new one is
	// laid.
	y := x.clone()
	y.move(n, -n)
	if !y.lay(n, data) {
		return api.ErrFull
	}
	y.drop(-n)
	*x = *y
	return api.OK
}

func (x *plain) move(n, to int) {
	x.things[to], x.at[to] = x.things[n], x.at[n]
	delete(x.things, n)
	delete(x.at, n)
	if row, there := x.long[n]; there {
		x.long[to] = row
		delete(x.long, n)
	}
}

func (x *plain) drop(n int) api.Errno {
	if !x.has(n) {
		return api.ErrNone
	}
	l, i := x.at[n][0], x.at[n][1]
	row := slices.Clone(x.slots[l])
	row[i] = nil
	for len(row) > 0 && row[len(row)-1] == nil {
		row = row[:len(row)-1]
	}
	x.slots[l] = row
	if len(row) == 0 {
		delete(x.slots, l)
	}
	delete(x.things, n)
	delete(x.at, n)
	delete(x.long, n)
	return api.OK
}

func (x *plain) numbers() []int {
	return slices.Sorted(maps.Keys(x.things))
}

// padded is bytes, and zeros behind them.
func padded(s string) string {
	return s + strings.Repeat("\x00", 512-len(s))
}

// pages is the bytes of all pages.
func (x *plain) pages() map[int]string {
	head := "HOBJ" + number(len(x.parts), 1)
	all := map[int]string{}
	for i, l := range x.parts {
		head += number(l, 2)
		text := ""
		for n := i*128 + 1; n <= i*128+128; n++ {
			spot := 0
			if x.has(n) {
				spot = 64*x.at[n][0] + x.at[n][1] + 1
			}
			text += number(spot, 4)
		}
		all[l] = text
	}
	all[0] = padded(head)
	for n, row := range x.long {
		data := x.things[n]
		for i, l := range row {
			all[l] = padded(data[512*i : min(512*i+512, len(data))])
		}
	}
	for l, row := range x.slots {
		all[l] = padded(slotText(row))
	}
	return all
}

// slotText is the bytes of a page of slots, but for the zeros behind them.
func slotText(row []*string) string {
	text, recs := number(len(row), 1), ""
	for _, rec := range row {
		if rec == nil {
			text += "\x00\x00"
			continue
		}
		text += number(len(*rec)+1, 2)
		recs += *rec
	}
	return text + recs
}

// thing is bytes of a length, other ones for another n.
func thing(length, n int) string {
	b := make([]byte, length)
	for i := range b {
		b[i] = byte(i*7 + i/512*3 + n*31 + 1)
	}
	return string(b)
}

// lengths are things', at all edges.
func lengths() []int {
	return []int{0, 1, 478, 479, 480, 481, 511, 512, 513, 1024, 1025, 16383, 16384}
}

// strange is numbers that never have a thing.
func strange() []int {
	return []int{math.MinInt, math.MinInt + 1, -8192, -128, -127, -2, -1, 0, 8193, 8194, 16384, 1 << 16, 1 << 32, 1<<32 + 1, math.MaxInt - 1, math.MaxInt}
}

// edges is numbers at the table's edges, and strange ones.
func edges() []int {
	return append(strange(), 1, 2, 3, 64, 65, 127, 128, 129, 130, 255, 256, 257, 384, 385, 8064, 8065, 8191, 8192)
}

// do asks that something is done.
func do(t *testing.T, name string, e api.Errno) {
	t.Helper()
	if e != api.OK {
		t.Fatalf("%s: %d", name, e)
	}
}

func newDisk(t *testing.T, sectors int) *disk.Disk {
	t.Helper()
	d, e := disk.New(sectors)
	do(t, "disk.New", e)
	return d
}

// newSpace is a space without pages.
func newSpace(t *testing.T, d *disk.Disk) *pager.Space {
	t.Helper()
	sp, e := pager.Format(d)
	do(t, "pager.Format", e)
	return sp
}

func openSpace(t *testing.T, d *disk.Disk) *pager.Space {
	t.Helper()
	sp, e := pager.Open(d)
	do(t, "pager.Open", e)
	return sp
}

func format(t *testing.T, sp *pager.Space) *store.Store {
	t.Helper()
	s, e := store.Format(sp)
	if e != api.OK || s == nil {
		t.Fatalf("Format: %v, %d", s, e)
	}
	return s
}

func open(t *testing.T, sp *pager.Space) *store.Store {
	t.Helper()
	s, e := store.Open(sp)
	if e != api.OK || s == nil {
		t.Fatalf("Open: %v, %d", s, e)
	}
	return s
}

// pagesOf is the bytes of all pages of a space.
func pagesOf(t *testing.T, sp *pager.Space) map[int]string {
	t.Helper()
	all := map[int]string{}
	for l := range sp.All() {
		text, e := sp.Read(l)
		do(t, "Read", e)
		all[l] = text
	}
	return all
}

// state is all that can be told of a space.
type state struct {
	pages       map[int]string
	word, epoch int
	need, free  int
	changed     bool
}

func stateOf(t *testing.T, sp *pager.Space) state {
	t.Helper()
	return state{pagesOf(t, sp), sp.Word(), sp.Epoch(), sp.Need(), sp.Free(), sp.Changed()}
}

func (a state) equal(b state) bool {
	pages := maps.Equal(a.pages, b.pages)
	a.pages, b.pages = nil, nil
	return pages && a.word == b.word && a.epoch == b.epoch && a.need == b.need && a.free == b.free && a.changed == b.changed
}

// checkThings asks that a store tells the things that a plain one has.
func checkThings(t *testing.T, name string, s *store.Store, x *plain) {
	t.Helper()
	if got := slices.Collect(s.All()); !slices.Equal(got, x.numbers()) {
		t.Fatalf("%s: All: %v, not %v", name, got, x.numbers())
	}
	if got := s.Len(); got != len(x.things) {
		t.Fatalf("%s: Len: %d, not %d", name, got, len(x.things))
	}
	for _, n := range append(edges(), x.numbers()...) {
		data, e := s.Get(n)
		if want, f := x.get(n); data != want || e != f {
			t.Fatalf("%s: Get(%d): %d bytes, %d, not %d bytes, %d", name, n, len(data), e, len(want), f)
		}
	}
}

// check asks that a store has the things and the pages of a plain one.
func check(t *testing.T, name string, s *store.Store, x *plain) {
	t.Helper()
	checkThings(t, name, s, x)
	got, want := pagesOf(t, s.Space()), x.pages()
	for l := range 512 {
		if got[l] != want[l] {
			t.Fatalf("%s: the page %d has\n%q, not\n%q", name, l, got[l], want[l])
		}
	}
}

// both does things to a store and to a plain one, and asks that they are told
// alike, and that what is refused changes nothing.
type both struct {
	t *testing.T
	d *disk.Disk
	s *store.Store
	x *plain
	// kept is what was committed last; none at first.
	kept *plain
}

func newBoth(t *testing.T, sectors int) *both {
	t.Helper()
	d := newDisk(t, sectors)
	return &both{t: t, d: d, s: format(t, newSpace(t, d)), x: newPlain()}
}

// try does a thing to the store, and asks for its error.
func (b *both) try(name string, want api.Errno, change func() api.Errno) {
	b.t.Helper()
	var was state
	if want != api.OK {
		was = stateOf(b.t, b.s.Space())
	}
	if e := change(); e != want {
		b.t.Fatalf("%s: %d, asked for %d", name, e, want)
	}
	if want != api.OK {
		if !stateOf(b.t, b.s.Space()).equal(was) {
			b.t.Fatalf("%s was refused with %d, and changed the space", name, want)
		}
		checkThings(b.t, name+", refused", b.s, b.x)
	}
}

func (b *both) add(data string) int {
	b.t.Helper()
	n, want := b.x.add(data)
	got := 0
	b.try("Add", want, func() (e api.Errno) {
		got, e = b.s.Add(data)
		return e
	})
	if got != n {
		b.t.Fatalf("Add of %d bytes: %d, not %d", len(data), got, n)
	}
	return n
}

func (b *both) put(n int, data string) api.Errno {
	b.t.Helper()
	want := b.x.put(n, data)
	b.try("Put", want, func() api.Errno { return b.s.Put(n, data) })
	return want
}

func (b *both) drop(row ...int) {
	b.t.Helper()
	for _, n := range row {
		want := b.x.drop(n)
		b.try("Drop", want, func() api.Errno { return b.s.Drop(n) })
	}
}

func (b *both) clear() {
	b.t.Helper()
	do(b.t, "Clear", b.s.Clear())
	b.x = newPlain()
}

func (b *both) check(name string) {
	b.t.Helper()
	check(b.t, name, b.s, b.x)
}

// commit commits what there is, if the space has room for it.
func (b *both) commit(word int) api.Errno {
	b.t.Helper()
	sp := b.s.Space()
	want := api.OK
	switch {
	case word < 0 || word > 1<<31-1:
		want = api.ErrRange
	case sp.Need() > sp.Free():
		want = api.ErrFull
	}
	b.try("Commit", want, func() api.Errno { return b.s.Commit(word) })
	if want == api.OK {
		b.kept = b.x.clone()
		if got := b.s.Word(); got != word || sp.Word() != word || sp.Changed() {
			b.t.Fatalf("Commit(%d): the word is %d, the space's %d; changed: %v", word, got, sp.Word(), sp.Changed())
		}
	}
	return want
}

func (b *both) abort() {
	b.t.Helper()
	do(b.t, "Abort", b.s.Abort())
	b.x = b.kept.clone()
}

// again opens the disk anew.
func (b *both) again() {
	b.t.Helper()
	b.s = open(b.t, openSpace(b.t, b.d))
	b.x = b.kept.clone()
}
