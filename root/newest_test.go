package root_test

import (
	"slices"
	"testing"

	"hibernacle/api"
	"hibernacle/root"
)

// checkNewest asks what is told of the blocks at the sectors 0 and 4.
func checkNewest(t *testing.T, name, a, b string, newer, older root.Root, want api.Errno) {
	t.Helper()
	x, y, e := root.Newest(a, b)
	if x != newer || y != older || e != want {
		t.Errorf("Newest of %s: %v, %v, %d, asked for %v, %v, %d", name, x, y, e, newer, older, want)
	}
}

func checkNone(t *testing.T, name, a, b string, want api.Errno) {
	t.Helper()
	checkNewest(t, name, a, b, root.Root{}, root.Root{}, want)
}

// torns are blocks that are torn, harms such that are harmed at either place.
func torns() []string {
	whole, other := block(r(5, 16, 2, 7)), block(r(8, 16, 3, 9))
	return []string{whole[:120] + zeros[120:], other[:8] + zeros[8:], zeros[:100] + whole[100:], whole[:60] + other[60:],
		other[:60] + whole[60:], with(zeros, 127, "\x01"), with(zeros, 0, "\x01")}
}

func harms() []string {
	whole, other := block(r(5, 16, 2, 7)), block(r(8, 16, 3, 9))
	return []string{with(whole, 119, "!"), with(other, 20, "\xff"), resummed(r(5, 16, 2, 7), 8, "HARM"),
		resummed(r(8, 16, 3, 9), 115, "\x01"), block(r(0, 16, 2, 7)), block(r(5, 16, 16, 7)), block(r(8, 513, 3, 9)),
		with(zeros, 60, "\x01")}
}

// texts are what is no sector, though it begins with a block or has zeros.
func texts() []string {
	whole := block(r(5, 16, 2, 7))
	return []string{"", "a", whole[:127], whole + "\x00", zeros[:127], zeros + "\x00", whole + whole, zeros + zeros}
}

// 5.2: the example, and one block that counts beside one that is empty, torn
// or harmed, on either side.
func TestNewestOfOne(t *testing.T) {
	checkNone(t, "zeros and zeros", zeros, zeros, api.ErrNone)
	for _, bad := range slices.Concat([]string{zeros}, torns(), harms()) {
		for _, x := range roots() {
			if x.Epoch%2 == 0 {
				checkNewest(t, "a block and one that doesn't count", block(x), bad, x, root.Root{}, api.OK)
			} else {
				checkNewest(t, "one that doesn't count and a block", bad, block(x), x, root.Root{}, api.OK)
			}
		}
	}
}

// 5.2: of two that count that of the greater epoch, on either side, and the
// other one if its epoch is less by one.
func TestNewestOfTwo(t *testing.T) {
	for _, step := range []int{1, 3, 5, 1001, 1<<32 + 1, most - 3} {
		for _, low := range []int{1, 2, 255, 256, 1<<31 - 1, 1 << 32, most - 4, most - 3, most - 2, most - 1} {
			if low > most-step {
				continue
			}
			lesser, greater := r(low, 16, 2, 7), r(low+step, 12, 3, 9)
			older := root.Root{}
			if step == 1 {
				older = lesser
			}
			a, b := block(lesser), block(greater)
			if low%2 == 1 {
				a, b = b, a
			}
			checkNewest(t, "two blocks", a, b, greater, older, api.OK)
		}
	}
}

// 5.2: two roots that differ in their epochs alone.
func TestNewestOfLikes(t *testing.T) {
	one, two, three := r(1, 16, 2, 7), r(2, 16, 2, 7), r(3, 16, 2, 7)
	checkNewest(t, "2 and 1", block(two), block(one), two, one, api.OK)
	checkNewest(t, "2 and 3", block(two), block(three), three, two, api.OK)
}

// 5.2: a block at the other one's place is harmed, whatever stands beside it.
func TestNewestMisplaced(t *testing.T) {
	odd, even := block(r(5, 16, 2, 7)), block(r(6, 16, 3, 9))
	checkNone(t, "both at the other one's place", odd, even, api.ErrHarm)
	checkNone(t, "an odd one at 0, beside zeros", odd, zeros, api.ErrHarm)
	checkNone(t, "an even one at 4, beside zeros", zeros, even, api.ErrHarm)
	for _, bad := range slices.Concat(torns(), harms()) {
		checkNone(t, "an odd one at 0, beside one that doesn't count", odd, bad, api.ErrHarm)
		checkNone(t, "an even one at 4, beside one that doesn't count", bad, even, api.ErrHarm)
	}
	checkNewest(t, "one epoch twice", odd, odd, r(5, 16, 2, 7), root.Root{}, api.OK)
	checkNewest(t, "one epoch twice", even, even, r(6, 16, 3, 9), root.Root{}, api.OK)
	checkNewest(t, "one epoch with two directories", block(r(5, 16, 9, 0)), odd, r(5, 16, 2, 7), root.Root{}, api.OK)
	checkNewest(t, "a greater one at the wrong place", block(r(7, 16, 2, 7)), odd, r(5, 16, 2, 7), root.Root{}, api.OK)
	checkNewest(t, "a lesser one at the wrong place", even, block(r(4, 16, 2, 7)), r(6, 16, 3, 9), root.Root{}, api.OK)
	checkNewest(t, "one greater by one at the wrong place", block(r(8, 16, 2, 7)), block(r(10, 16, 2, 7)), r(8, 16, 2, 7), root.Root{}, api.OK)
}

// 5.2: where none counts: each pairing of empty, torn and harmed.
func TestNewestOfNone(t *testing.T) {
	for _, torn := range torns() {
		checkNone(t, "torn and empty", torn, zeros, api.ErrNone)
		checkNone(t, "empty and torn", zeros, torn, api.ErrNone)
		for _, other := range torns() {
			checkNone(t, "torn and torn", torn, other, api.ErrHarm)
		}
		for _, harmed := range harms() {
			checkNone(t, "torn and harmed", torn, harmed, api.ErrHarm)
			checkNone(t, "harmed and torn", harmed, torn, api.ErrHarm)
		}
	}
	for _, harmed := range harms() {
		checkNone(t, "harmed and empty", harmed, zeros, api.ErrHarm)
		checkNone(t, "empty and harmed", zeros, harmed, api.ErrHarm)
		for _, other := range harms() {
			checkNone(t, "harmed and harmed", harmed, other, api.ErrHarm)
		}
	}
}

// 5.2: a text that hasn't 128 bytes, on either side, whatever stands beside
// it.
func TestNewestOfTexts(t *testing.T) {
	blocks := []string{zeros, block(r(1, 16, 2, 7)), block(r(2, 16, 2, 7))}
	for _, s := range texts() {
		for _, other := range slices.Concat(blocks, torns(), harms(), texts()) {
			checkNone(t, "a text", s, other, api.ErrArg)
			checkNone(t, "a text", other, s, api.ErrArg)
		}
	}
}
