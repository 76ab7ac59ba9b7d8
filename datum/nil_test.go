package datum_test

import (
	"strings"
	"testing"

	"hibernacle/api"
	"hibernacle/datum"
)

// 15.3: a nil memory with each call.
func TestNilMemory(t *testing.T) {
	always := func(a, b api.Val) bool { return true }
	list := append(append(plain(), unmay()...), ref(0), ref(1))
	for _, v := range list {
		refused(t, "Cons", api.ErrArg)(datum.Cons(nil, v, null))
		refused(t, "Cons", api.ErrArg)(datum.Cons(nil, null, v))
		refused(t, "Build", api.ErrArg)(datum.Build(nil, nil, v))
		refused(t, "Build", api.ErrArg)(datum.Build(nil, []api.Val{v}, null))
		refused(t, "Vector", api.ErrArg)(datum.Vector(nil, []api.Val{v}))
		refused(t, "Append", api.ErrArg)(datum.Append(nil, v, null))
		refused(t, "Append", api.ErrArg)(datum.Append(nil, null, v))
		refused(t, "Reverse", api.ErrArg)(datum.Reverse(nil, v))
		if a, b, is := datum.Pair(nil, v); a != null || b != null || is {
			t.Fatalf("Pair: %v, %v, %v", a, b, is)
		}
		if l, end, ends := datum.Chain(nil, v); len(l) != 0 || end != null || ends {
			t.Fatalf("Chain: %v, %v, %v", l, end, ends)
		}
		if l, is := datum.List(nil, v); len(l) != 0 || is {
			t.Fatalf("List: %v, %v", l, is)
		}
		for p, x := range datum.Items(nil, v) {
			t.Fatalf("Items: %v, %v", p, x)
		}
		is(t, "Member", datum.Member(nil, v, v, always), no)
		is(t, "Assoc", datum.Assoc(nil, v, v, always), no)
		for _, w := range list {
			if got := datum.Alike(nil, v, w); got != (v == w) {
				t.Fatalf("Alike(%v, %v): %v", v, w, got)
			}
		}
	}
	refused(t, "Vector", api.ErrArg)(datum.Vector(nil, nil))
	refused(t, "String", api.ErrArg)(datum.String(nil, ""))
	refused(t, "String", api.ErrArg)(datum.String(nil, "abc"))
	refused(t, "String", api.ErrArg)(datum.String(nil, strings.Repeat("a", 5000)))
	refused(t, "Build", api.ErrArg)(datum.Build(nil, make([]api.Val, 20000), null))
}
