package store_test

import (
	"math/rand"
	"testing"

	"hibernacle/api"
)

// number is a number, mostly one with a thing.
func (b *both) number(from *rand.Rand) int {
	there := b.x.numbers()
	if len(there) == 0 || from.Intn(10) == 0 {
		return edges()[from.Intn(len(edges()))]
	}
	return there[from.Intn(len(there))]
}

// length is a thing's, mostly a short one's.
func length(from *rand.Rand, most int) int {
	switch from.Intn(12) {
	case 0:
		return append(lengths(), 16385)[from.Intn(len(lengths())+1)]
	case 1:
		return from.Intn(most)
	case 2:
		return 470 + from.Intn(60)
	}
	return from.Intn(60)
}

// step does one thing to the store and to the plain one.
func (b *both) step(from *rand.Rand, most int) {
	b.t.Helper()
	data := thing(length(from, most), from.Intn(1000))
	switch from.Intn(16) {
	case 0, 1, 2, 3, 4, 5:
		b.add(data)
	case 6, 7, 8:
		b.put(b.number(from), data)
	case 9, 10, 11:
		b.drop(b.number(from))
	case 12:
		b.commit(from.Intn(1<<31+10) - 5)
	case 13:
		b.abort()
	case 14:
		b.end(from)
	default:
		b.several(from)
	}
}

// several adds, or drops, many things; now and then all.
func (b *both) several(from *rand.Rand) {
	b.t.Helper()
	switch from.Intn(8) {
	case 0:
		b.clear()
	case 1:
		b.drop(b.x.numbers()...)
	case 2, 3, 4:
		for range from.Intn(150) {
			b.add(thing(from.Intn(4), from.Intn(1000)))
		}
	default:
		for _, n := range b.x.numbers() {
			if from.Intn(2) == 0 {
				b.drop(n)
			}
		}
	}
}

// end opens the disk anew, behind a commit that was cut or not.
func (b *both) end(from *rand.Rand) {
	b.t.Helper()
	if sp := b.s.Space(); from.Intn(2) == 0 || sp.Need() > sp.Free() {
		b.again()
		return
	}
	was, word := b.s.Word(), from.Intn(1<<30)
	b.d.Fuse(from.Intn(4*b.s.Space().Need() + 3))
	if e := b.s.Commit(word); e != api.ErrDown {
		b.t.Fatalf("Commit: %d", e)
	}
	n := len(b.d.Waiting())
	b.d.Fail(chosen(n, from.Int()), from.Intn(n+1)-1, from.Intn(129))
	b.d.Start()
	b.s = open(b.t, openSpace(b.t, b.d))
	if b.s.Word() == word && word != was {
		b.kept = b.x.clone()
	}
	b.x = b.kept.clone()
}

// 12.4: any steps, held against a plain map, and its pages.
func TestAnySteps(t *testing.T) {
	t.Parallel()
	for seed := range 24 {
		from := rand.New(rand.NewSource(int64(seed)))
		b := newBoth(t, []int{64, 128, 512, 2048}[seed%4])
		b.commit(0)
		for n := range 300 {
			b.step(from, []int{600, 3000, 16386}[seed%3])
			if n%4 == 0 {
				b.check("any steps")
			}
			if b.s.Len() == 0 && b.s.Space().Len() != 1+len(b.x.parts) {
				t.Fatalf("without things there are %d pages", b.s.Space().Len())
			}
		}
		b.check("any steps")
	}
}

// 12.4: any steps of a space that is all but full.
func TestAnyStepsOfAFullSpace(t *testing.T) {
	t.Parallel()
	seen := map[api.Errno]int{}
	for seed := range 4 {
		from := rand.New(rand.NewSource(int64(100 + seed)))
		b := newBoth(t, 2048)
		b.fill(seed * 3)
		for range 150 {
			data := thing([]int{from.Intn(480), from.Intn(3000), from.Intn(480), from.Intn(16385)}[from.Intn(4)], from.Intn(1000))
			switch from.Intn(10) {
			case 0, 1, 2, 3:
				b.add(data)
			case 4, 5, 6, 7, 8:
				seen[b.put(b.number(from), data)]++
			default:
				b.drop(b.number(from))
			}
			if from.Intn(4) == 0 {
				b.check("a full space")
			}
		}
		b.check("a full space")
	}
	if seen[api.OK] < 10 || seen[api.ErrFull] < 10 {
		t.Errorf("Put told %v", seen)
	}
}
