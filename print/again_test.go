package print_test

import (
	"fmt"
	"math"
	"math/rand"
	"slices"
	"strings"
	"testing"

	"hibernacle/api"
	"hibernacle/print"
	"hibernacle/read"
)

// unlike tells where two values aren't of one shape, each in its world; nothing,
// if they are.
func unlike(a, b *world, v, x api.Val) string {
	to, back := map[api.Val]api.Val{}, map[api.Val]api.Val{}
	todo := [][2]api.Val{{v, x}}
	for i := 0; i < len(todo); i++ {
		v, x := todo[i][0], todo[i][1]
		where := fmt.Sprintf("the value %d: %v, %v", i, v, x)
		switch {
		case v.K != x.K, v.K == api.Sym && a.x.Name(v.N) != b.x.Name(x.N), v.K != api.Sym && v.K != api.Ref && v != x:
			return where
		case v.K != api.Ref:
			continue
		}
		y, was := to[v]
		z, wasBack := back[x]
		if was != wasBack || was && (y != x || z != v) {
			return where + ": other ones go with them"
		}
		if was {
			continue
		}
		to[v], back[x] = x, v
		one, e := a.h.Obj(v)
		two, f := b.h.Obj(x)
		if e != api.OK || f != api.OK || one.Kind != two.Kind || string(one.Bytes) != string(two.Bytes) || len(one.Vals) != len(two.Vals) {
			return where + fmt.Sprintf(": %v, %v", one, two)
		}
		for i := range one.Vals {
			todo = append(todo, [2]api.Val{one.Vals[i], two.Vals[i]})
		}
	}
	return ""
}

// again asks that a value is read again of what it is written as.
func (w *world) again(v api.Val) {
	w.t.Helper()
	text := print.Write(w.h, w.x, v)
	other := newWorld(w.t)
	x, place, e := read.One(other.h, other.x, text)
	if e != api.OK {
		w.t.Fatalf("%s isn't read: %d at %d", short(text), e, place)
	}
	if what := unlike(w, other, v, x); what != "" {
		w.t.Fatalf("%s is read as another thing: %s", short(text), what)
	}
	if got := print.Write(other.h, other.x, x); got != text {
		w.t.Fatalf("%s is written as %s, when it is read again", short(text), short(got))
	}
}

// 18.2: what is no object is read again of what it is written as.
func TestPlainAgain(t *testing.T) {
	w := newWorld(t)
	vals := append(w.readable(), number(math.MaxInt), number(math.MinInt), number(0))
	for n := range 128 {
		vals = append(vals, char(rune(n)))
	}
	for _, v := range vals {
		w.again(v)
		w.again(w.list(v))
		w.again(w.pair(v, v))
		w.again(w.vector(v, v, v))
		for name := range quotes() {
			w.again(w.list(w.sym(name), v))
			w.again(w.list(w.sym(name), v, v))
			w.again(w.pair(w.sym(name), v))
			w.again(w.chain(v, w.sym(name), v))
			w.again(w.list(v, w.sym(name), v))
			w.again(w.list(w.sym(name), w.list(w.sym(name), v)))
		}
	}
}

// 18.2: strings, bytes and vectors, as long as a text may be.
func TestLongAgain(t *testing.T) {
	w := newWorld(t)
	for _, v := range []api.Val{
		w.text(""), w.text(strings.Repeat("a", 4094)), w.text(strings.Repeat("\x7f", 818)), w.text(strings.Repeat(`\`, 2047)),
		w.bytes(), w.bytes(make([]byte, 2045)...), w.bytes([]byte(strings.Repeat("\xff", 1022))...),
		w.vector(), w.vector(make([]api.Val, 256)...),
		w.list(make([]api.Val, 1365)...), w.chain(number(1), slices.Repeat([]api.Val{number(7)}, 2045)...),
	} {
		w.again(v)
	}
	all := make([]byte, 128)
	for i := range all {
		all[i] = byte(i)
	}
	text := w.text(string(all))
	w.again(text)
	w.again(w.list(text, w.bytes(all...), text))
	for n := range 256 {
		w.again(w.bytes(byte(n)))
	}
}

// 18.2: as deep as data may lie in one another.
func TestDeepAgain(t *testing.T) {
	for what, nest := range map[string]func(w *world, v api.Val) api.Val{
		"pairs":   func(w *world, v api.Val) api.Val { return w.pair(v, number(1)) },
		"vectors": func(w *world, v api.Val) api.Val { return w.vector(v, number(1)) },
		"marks":   func(w *world, v api.Val) api.Val { return w.list(w.sym("unquote"), v) },
	} {
		w := newWorld(t)
		v := w.sym("@x")
		for range api.MaxDeep {
			v = nest(w, v)
			w.again(v)
		}
		if _, _, e := read.Count(print.Write(w.h, w.x, nest(w, v))); e != api.ErrLong {
			t.Fatalf("%s: %d", what, e)
		}
	}
	w := newWorld(t)
	for _, count := range []int{1, 2, 10, 300} {
		v := w.list(make([]api.Val, count)...)
		w.set(w.tail(v, count-1), 1, w.tail(v, count/2))
		w.again(v)
		w.again(w.vector(v, v, w.tail(v, count-1)))
	}
}

// 18.2: any things of the kinds that can be read. (Each object is a bracket or a
// mark, and a label: of so few none lies too deep.)
func TestAnyAgain(t *testing.T) {
	tangled := 0
	for seed := range 700 {
		from := rand.New(rand.NewSource(int64(seed)))
		w, all := some(t, from, 1+from.Intn(31), false)
		m := copied(w)
		for _, v := range all {
			written, _ := m.tell(v)
			w.again(v)
			if strings.Contains(written, "#1=") {
				tangled++
			}
		}
		w.again(w.vector(all...))
	}
	if tangled < 1000 {
		t.Fatal("too few things with more than one label:", tangled)
	}
}
