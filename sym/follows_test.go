package sym_test

import (
	"math/rand"
	"testing"

	"hibernacle/api"
	"hibernacle/sym"
)

// some is a text, mostly a name out of few: so that many are there already.
func some(from *rand.Rand) string {
	const letters = "ab%1"
	switch from.Intn(12) {
	case 0:
		list := texts()
		return list[from.Intn(len(list))]
	case 1:
		return text(27 + from.Intn(7))
	case 2:
		return madeOf(text(27+from.Intn(6)), 1+from.Intn(12))
	}
	name := make([]byte, 1+from.Intn(4))
	for i := range name {
		name[i] = letters[from.Intn(len(letters))]
	}
	return string(name)
}

// step does one thing to a table and to a plain one, and asks that both tell
// one answer.
func step(t *testing.T, from *rand.Rand, s *sym.Table, x *plain) {
	t.Helper()
	name := some(from)
	switch from.Intn(3) {
	case 0:
		ask(t, "Number", s, x, name)
	case 1:
		ask(t, "Fresh", s, x, name)
	default:
		if got, want := find(s, name), x.find(name); got != want {
			t.Fatalf("Find(%q): %v, not %v", name, got, want)
		}
	}
}

// 10.1 to 10.3: any steps one behind the other, held against plain lists; of
// a copy and what it was copied from each goes on by itself.
func TestAnySteps(t *testing.T) {
	from := rand.New(rand.NewSource(101))
	for range 20 {
		s, x := sym.New(), plain{}
		for range 30 {
			for range 10 {
				step(t, from, s, &x)
			}
			check(t, "a table amid steps", s, x)
			if from.Intn(4) > 0 {
				continue
			}
			other, y := s.Copy(), append(plain{}, x...)
			for range 10 {
				step(t, from, s, &x)
				step(t, from, other, &y)
			}
			check(t, "a table behind its copy's steps", s, x)
			check(t, "a copy", other, y)
			if from.Intn(2) == 0 {
				s, x = other, y
			}
		}
	}
}

// 10.2: a copy has the same names, and then goes on by itself; so does what it
// was copied from.
func TestCopy(t *testing.T) {
	for _, n := range []int{0, 1, 2, 3, 4, 5, 7, 8, 9, 100, 16383, 16384} {
		s, x := filled(t, n)
		other := s.Copy()
		check(t, "a copy", other, x)
		y := append(plain{}, x...)
		for _, name := range []string{"theirs", "both", "n0"} {
			ask(t, "Number", other, &y, name)
			ask(t, "Fresh", other, &y, name)
		}
		check(t, "what was copied", s, x)
		for _, name := range []string{"ours", "n0", "both"} {
			ask(t, "Number", s, &x, name)
			ask(t, "Fresh", s, &x, name)
		}
		check(t, "what was copied, and went on", s, x)
		check(t, "a copy that went on", other, y)
	}
}

// 10.2: a copy of a copy is by itself, too; of one table there may be many.
func TestCopies(t *testing.T) {
	s := tableOf(t, "car")
	one, two := s.Copy(), s.Copy()
	three := one.Copy()
	for i, c := range []*sym.Table{s, one, two, three} {
		name := text(i + 5)
		if got := number(c, name); got != (answer{i: 1}) {
			t.Fatalf("Number(%q): %v", name, got)
		}
	}
	for i, c := range []*sym.Table{s, one, two, three} {
		check(t, "one of four", c, plain{"car", text(i + 5)})
	}
}

// 10.3: two names have one number just if they are the same; a number's name
// has that number.
func TestOneNumberJustIfTheSame(t *testing.T) {
	from := rand.New(rand.NewSource(103))
	s := sym.New()
	numbers, names := map[string]int{}, map[int]string{}
	for range 4000 {
		name := some(from)
		got := number(s, name)
		if from.Intn(2) == 0 {
			got = fresh(s, name)
			name = s.Name(got.i)
		}
		if got.e != api.OK {
			continue
		}
		if was, there := numbers[name]; there && was != got.i {
			t.Fatalf("%q has the numbers %d and %d", name, was, got.i)
		}
		if was, there := names[got.i]; there && was != name {
			t.Fatalf("%d is the number of %q and of %q", got.i, was, name)
		}
		numbers[name], names[got.i] = got.i, name
	}
	for i := range s.Len() {
		name := s.Name(i)
		if was, there := names[i]; there && was != name {
			t.Fatalf("Name(%d): %q, that was the number of %q", i, name, was)
		}
		if again := number(s, name); again != (answer{i: i}) {
			t.Fatalf("Number(%q): %v, not %d", name, again, i)
		}
		if there := find(s, name); there != (found{i, true}) {
			t.Fatalf("Find(%q): %v, not %d", name, there, i)
		}
	}
}
