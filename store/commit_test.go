package store_test

import (
	"math"
	"math/rand"
	"slices"
	"testing"

	"hibernacle/api"
	"hibernacle/store"
)

// 12.3: Commit, Abort, and what is opened anew, with things added, put and
// dropped ahead and behind.
func TestCommitAndAbort(t *testing.T) {
	b := newBoth(t, 2048)
	changes := map[string]func(){
		"nothing":       func() {},
		"added":         func() { b.add(thing(5, 1)) },
		"a long one":    func() { b.add(thing(5000, 2)) },
		"a part":        func() { b.add(""); b.fillNumbers(130) },
		"put":           func() { b.put(2, thing(7, 3)) },
		"put, long":     func() { b.put(3, thing(16384, 4)) },
		"put, short":    func() { b.put(4, thing(0, 5)) },
		"dropped":       func() { b.drop(5) },
		"some of each":  func() { b.drop(7); b.add("x"); b.put(8, "y"); b.drop(8); b.add("z") },
		"cleared":       func() { b.clear() },
		"added anew":    func() { b.clear(); b.add("x") },
		"all dropped":   func() { b.drop(b.x.numbers()...) },
		"what's there":  func() { b.put(2, b.x.things[2]) },
		"a bad word":    func() { b.commit(-1) },
		"asked":         func() { b.s.Len(); b.s.Get(3); b.s.Drop(9000) },
		"refused":       func() { b.add(thing(16385, 0)); b.put(2, thing(16385, 0)); b.drop(9000) },
		"gone and come": func() { b.drop(2); b.add(b.kept.things[2]) },
	}
	for n := range 10 {
		b.add(thing(lengths()[n], n))
	}
	b.commit(1)
	word := 1
	for _, name := range slices.Sorted(keysOf(changes)) {
		for n := range 3 {
			for b.s.Len() < 10 {
				b.add(thing(lengths()[b.s.Len()], n))
			}
			word++
			b.commit(word)
			changes[name]()
			b.check(name)
			switch n {
			case 0:
				b.abort()
				b.check(name + ", aborted")
			case 1:
				b.again()
				b.check(name + ", opened anew")
			case 2:
				word++
				b.commit(word)
				b.again()
				b.check(name + ", committed, opened anew")
				b.abort()
				b.check(name + ", committed, opened anew, aborted")
			}
			if b.s.Word() != word {
				t.Fatalf("%s: the word is %d, not %d", name, b.s.Word(), word)
			}
		}
	}
}

func keysOf(m map[string]func()) func(yield func(string) bool) {
	return func(yield func(string) bool) {
		for name := range m {
			if !yield(name) {
				return
			}
		}
	}
}

// fillNumbers adds things till there are so many.
func (b *both) fillNumbers(most int) {
	b.t.Helper()
	for b.s.Len() < most {
		b.add("")
	}
}

// 12.3: words that may be, and such as may not.
func TestWords(t *testing.T) {
	b := newBoth(t, 64)
	b.commit(0)
	for _, word := range []int{0, 1, 255, 1 << 30, 1<<31 - 1} {
		b.add("x")
		for _, bad := range []int{math.MinInt, -1 << 31, -1, 1 << 31, 1 << 32, math.MaxInt} {
			was := b.s.Word()
			if e := b.commit(bad); e != api.ErrRange || b.s.Word() != was {
				t.Errorf("Commit(%d): %d, the word is %d", bad, e, b.s.Word())
			}
		}
		if e := b.commit(word); e != api.OK {
			t.Errorf("Commit(%d): %d", word, e)
		}
		b.again()
		b.check("opened anew")
		if b.s.Word() != word {
			t.Errorf("the word is %d, not %d", b.s.Word(), word)
		}
	}
}

// 12.3: behind an Abort whose Open failed all calls tell ErrState.
func TestAbortOfNothing(t *testing.T) {
	b := newBoth(t, 64)
	b.add("x")
	all := b.s.All()
	sp := b.s.Space()
	if e := b.s.Abort(); e != api.ErrNone {
		t.Fatalf("Abort of what was never committed: %d", e)
	}
	if sp.Len() != 0 {
		t.Errorf("the space has %d pages", sp.Len())
	}
	checkShut(t, "never committed", b.s)
	if b.s.Space() != sp || b.s.Word() != 0 {
		t.Errorf("the space is another one, or the word %d", b.s.Word())
	}
	if got := slices.Collect(all); !slices.Equal(got, []int{1}) {
		t.Errorf("what All told is %v", got)
	}
	// The space itself is there still, and may have a store again.
	s := format(t, sp)
	check(t, "formatted anew", s, newPlain())
	checkShut(t, "beside a new one", b.s)
}

// 12.3: Abort where the disk is down, where the space is gone, and where what
// was committed isn't a store's.
func TestAbortRefused(t *testing.T) {
	b := newBoth(t, 64)
	b.add("x")
	b.commit(6)
	b.d.Fail(nil, -1, 0)
	if e := b.s.Abort(); e != api.ErrDown {
		t.Fatalf("Abort on a disk that is down: %d", e)
	}
	checkShut(t, "down", b.s)
	b.d.Start()
	checkShut(t, "down, started", b.s)
	if b.s.Word() != 6 {
		t.Errorf("the word is %d", b.s.Word())
	}
	b.again()
	b.d.Fuse(0)
	if e := b.s.Commit(7); e != api.ErrDown {
		t.Fatalf("Commit: %d", e)
	}
	if e := b.s.Abort(); e != api.ErrDown {
		t.Fatalf("Abort of a space that is gone: %d", e)
	}
	checkShut(t, "gone", b.s)
	b.d.Start()
	b.again()
	b.check("opened anew")
	for l, want := range []api.Errno{api.ErrHarm, api.ErrHarm, api.ErrHarm} {
		b := newBoth(t, 64)
		b.add("x")
		sp := b.s.Space()
		do(t, "Write", sp.Write(l, padded("\xff")))
		do(t, "Commit", sp.Commit(0))
		if e := b.s.Abort(); e != want {
			t.Errorf("Abort where the page %d is harmed: %d", l, e)
		}
		checkShut(t, "harmed", b.s)
	}
}

// checkShut asks what a store tells that couldn't be opened anew.
func checkShut(t *testing.T, name string, s *store.Store) {
	t.Helper()
	was := s.Space().Epoch()
	for _, n := range edges() {
		for call, e := range use(t, s, n) {
			if e != api.ErrState {
				t.Errorf("%s: %s(%d): %d", name, call, n, e)
			}
		}
		if e := s.Put(n, thing(16385, 0)); e != api.ErrState {
			t.Errorf("%s: Put(%d) of 16,385 bytes: %d", name, n, e)
		}
		if e := s.Commit(n); e != api.ErrState {
			t.Errorf("%s: Commit(%d): %d", name, n, e)
		}
	}
	if n, e := s.Add(thing(16385, 0)); n != 0 || e != api.ErrState {
		t.Errorf("%s: Add of 16,385 bytes: %d, %d", name, n, e)
	}
	if e, f := s.Clear(), s.Abort(); e != api.ErrState || f != api.ErrState {
		t.Errorf("%s: Clear: %d; Abort: %d", name, e, f)
	}
	if s.Len() != 0 || len(slices.Collect(s.All())) != 0 {
		t.Errorf("%s: Len %d, All %v", name, s.Len(), slices.Collect(s.All()))
	}
	if epoch := s.Space().Epoch(); epoch != was {
		t.Errorf("%s: the epoch is %d, not %d", name, epoch, was)
	}
}

// 12.2, 12.3: calls of a store whose commit was cut: who needs the space is
// told, but errors that are named ahead come ahead.
func TestGone(t *testing.T) {
	for fuse, done := 0, api.ErrDown; ; fuse++ {
		b := newBoth(t, 64)
		b.add("x")
		b.add(thing(600, 1))
		b.commit(1)
		b.put(1, "y")
		b.drop(2)
		b.d.Fuse(fuse)
		if done = b.s.Commit(2); done == api.OK {
			break
		}
		if done != api.ErrDown {
			t.Fatalf("Commit with a fuse of %d: %d", fuse, done)
		}
		for range 2 {
			checkGone(t, b.s)
			b.d.Fail(nil, -1, 0)
			b.d.Start()
		}
	}
}

// checkGone asks what a store with the thing 1 tells whose space is gone.
func checkGone(t *testing.T, s *store.Store) {
	t.Helper()
	for call, e := range use(t, s, 1) {
		if e != api.ErrDown {
			t.Errorf("gone: %s(1): %d", call, e)
		}
	}
	for _, n := range append(strange(), 2, 8192) {
		for call, e := range use(t, s, n) {
			if want := map[bool]api.Errno{true: api.ErrDown, false: api.ErrNone}[call == "Add"]; e != want {
				t.Errorf("gone: %s(%d): %d", call, n, e)
			}
		}
	}
	for _, word := range []int{-1, 0, 1, 1 << 31} {
		if e := s.Commit(word); e != api.ErrDown {
			t.Errorf("gone: Commit(%d): %d", word, e)
		}
	}
	if e := s.Clear(); e != api.ErrDown {
		t.Errorf("gone: Clear: %d", e)
	}
	if n, e := s.Add(thing(16385, 0)); n != 0 || e != api.ErrLong {
		t.Errorf("gone: Add of 16,385 bytes: %d, %d", n, e)
	}
	if e := s.Put(1, thing(16385, 0)); e != api.ErrLong {
		t.Errorf("gone: Put of 16,385 bytes: %d", e)
	}
	if s.Word() != 0 || !slices.Equal(slices.Collect(s.All()), []int{1}) || s.Len() != 1 {
		t.Errorf("gone: Word %d, Len %d", s.Word(), s.Len())
	}
}

// 12.2: calls of a store whose disk is down.
func TestDown(t *testing.T) {
	b := newBoth(t, 64)
	b.add("x")
	b.add(thing(600, 1))
	b.commit(1)
	b.d.Fail(nil, -1, 0)
	was := b.s.Space().Need()
	for n := 1; n <= 2; n++ {
		for call, e := range use(t, b.s, n) {
			if e != api.ErrDown {
				t.Errorf("down: %s(%d): %d", call, n, e)
			}
		}
	}
	if e := b.s.Clear(); e != api.ErrDown {
		t.Errorf("down: Clear: %d", e)
	}
	if b.s.Space().Changed() || b.s.Space().Need() != was {
		t.Error("what was refused changed the space")
	}
	b.d.Start()
	b.check("started")
}

// cut is one way in which the power goes.
type cut struct {
	keep     []bool
	torn, at int
}

// cuts are ways in which the power goes while so many writes wait: with
// nothing, all and any part of them coming out.
func cuts(from *rand.Rand, n int) []cut {
	list := []cut{{nil, -1, 0}, {chosen(n, -1), -1, 0}, {chosen(n, from.Int()), -1, 0}, {chosen(n, from.Int()), -1, 0}}
	if n == 0 {
		return list
	}
	for range 4 {
		list = append(list, cut{chosen(n, from.Int()), from.Intn(n), from.Intn(129)})
	}
	for _, at := range []int{0, 1, 8, 64, 116, 127, 128} {
		list = append(list, cut{chosen(n, -1), n - 1, at})
	}
	return list
}

// chosen is a list that keeps what bits tell, and goes over them again where
// it is longer than they are.
func chosen(n, bits int) []bool {
	keep := make([]bool, n)
	for i := range keep {
		keep[i] = bits>>(i%62)&1 == 1
	}
	return keep
}

// checkFailures changes what is committed, and lets the commit of that fail at
// every single write: what is opened is what was committed, or the new one.
func (b *both) checkFailures(from *rand.Rand, word int, change func(c *both)) {
	b.t.Helper()
	was := b.s.Word()
	for fuse, done := 0, api.ErrDown; done != api.OK; fuse++ {
		c := &both{t: b.t, d: b.d.Clone(), kept: b.kept}
		c.again()
		change(c)
		c.d.Fuse(fuse)
		done = c.s.Commit(word)
		if done != api.OK && done != api.ErrDown {
			b.t.Fatalf("Commit with a fuse of %d: %d", fuse, done)
		}
		seen := map[bool]int{}
		for _, cut := range cuts(from, len(c.d.Waiting())) {
			d := c.d.Clone()
			d.Fail(cut.keep, cut.torn, cut.at)
			d.Start()
			s := open(b.t, openSpace(b.t, d))
			isNew := s.Word() == word
			if isNew {
				check(b.t, "the new one", s, c.x)
			} else {
				check(b.t, "as it was", s, c.kept)
			}
			if !isNew && s.Word() != was {
				b.t.Fatalf("with a fuse of %d: the word is %d", fuse, s.Word())
			}
			seen[isNew]++
		}
		if done == api.OK && seen[false] > 0 || fuse == 0 && seen[true] > 0 {
			b.t.Fatalf("with a fuse of %d the commit told %d: %v", fuse, done, seen)
		}
	}
}

// 12.4: a failure at every single write of a commit.
func TestFailures(t *testing.T) {
	from := rand.New(rand.NewSource(12))
	b := newBoth(t, 512)
	b.commit(1)
	changes := []func(c *both){
		func(*both) {},
		func(c *both) { c.add("x") },
		func(c *both) { c.add(thing(3000, 1)) },
		func(c *both) { c.put(1, thing(479, 2)); c.put(2, "") },
		func(c *both) { c.drop(2); c.add(thing(600, 3)); c.add("y") },
		func(c *both) { c.fillNumbers(140) },
		func(c *both) { c.put(130, thing(1025, 4)); c.drop(1, 3, 140) },
		func(c *both) { c.clear() },
		func(c *both) { c.add("again") },
		func(c *both) { c.drop(1) },
	}
	for i, change := range changes {
		b.checkFailures(from, i+2, change)
		change(b)
		if e := b.commit(i + 2); e != api.OK {
			t.Fatalf("Commit: %d", e)
		}
		b.check("committed")
	}
}
