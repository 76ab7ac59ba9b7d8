package heap_test

import (
	"fmt"
	"math"
	"slices"
	"strings"
	"testing"

	"hibernacle/api"
)

// nowhere are values that are no Ref to an object of withSome's.
func nowhere() []api.Val {
	list := []api.Val{ref(2), ref(4), ref(6), ref(7)}
	for _, v := range vals() {
		if v.K != api.Ref || v.N < 0 || v.N > 5 {
			list = append(list, v)
		}
	}
	return list
}

// 13.1 to 13.3: every call at values that are no Ref, and at Refs to places
// below 0, without an object, and above all.
func TestNowhere(t *testing.T) {
	b := withSome(t)
	for _, v := range nowhere() {
		for _, c := range append(asking(), others()...) {
			b.ask(fmt.Sprintf("%s of %v", c.name, v), func(m memory) string { return c.ask(m, v) })
		}
	}
	b.check("asked for nothing")
}

// 13.1 to 13.3: every call at Refs to places that were used anew asks for the
// object that is there now.
func TestAnew(t *testing.T) {
	for _, c := range append(asking(), others()...) {
		b := withSome(t)
		b.ask("Add", func(m memory) string { return told(m.Add(text(api.Bytes, "anew"))) })
		b.ask("Away", func(m memory) string { return told(m.Away(8)) })
		b.must("Fetch", func(m memory) bool { m.Fetch(fetchThis(pair(5, 6))); return true })
		for _, place := range []int{2, 4, 3} {
			b.ask(fmt.Sprintf("%s of the place %d", c.name, place), func(m memory) string { return c.ask(m, ref(place)) })
		}
		b.ask("At", func(m memory) string { return told(m.At(ref(5), 0)) })
		b.check("places used anew")
	}
}

// 13.2: each call tells ErrNone ahead of all else, and nothing beside.
func TestNoneByHand(t *testing.T) {
	h := withSome(t).h
	for _, v := range []api.Val{{}, number(0), {K: api.Bool}, {K: api.Eof}, {K: api.Kinds}, {K: -1}, ref(-1), ref(2), ref(6), ref(math.MaxInt)} {
		if o, e := h.Obj(v); o.Kind != 0 || o.Vals != nil || o.Bytes != nil || e != api.ErrNone {
			t.Errorf("Obj(%v): %v, %d", v, o, e)
		}
		if k, e := h.Kind(v); k != 0 || e != api.ErrNone {
			t.Errorf("Kind(%v): %d, %d", v, k, e)
		}
		if n, e := h.Size(v); n != 0 || e != api.ErrNone {
			t.Errorf("Size(%v): %d, %d", v, n, e)
		}
		if s, e := h.Text(v); s != "" || e != api.ErrNone {
			t.Errorf("Text(%v): %q, %d", v, s, e)
		}
		for _, i := range []int{-1, 0, 1000} {
			if x, e := h.At(v, i); x != (api.Val{}) || e != api.ErrNone {
				t.Errorf("At(%v, %d): %v, %d", v, i, x, e)
			}
			if e, f := h.Set(v, i, api.Val{K: api.Kinds}), h.SetByte(v, i, 200); e != api.ErrNone || f != api.ErrNone {
				t.Errorf("Set, SetByte(%v, %d): %d, %d", v, i, e, f)
			}
		}
	}
}

// ofEachKind has objects of each kind.
func ofEachKind(t *testing.T) *both {
	t.Helper()
	b := newBoth(t, 300)
	for k := range api.ObjKinds {
		for _, n := range []int{0, 1, 2, 3, 256} {
			o := api.Obj{Kind: k}
			for i := range n {
				o.Vals = append(o.Vals, number(i))
			}
			if b.x.mayObj(o) {
				b.add(o)
			}
		}
	}
	for _, s := range []string{"a", "\x7f\x80\x00\xff", strings.Repeat("ab", 2048)} {
		b.add(text(api.String, s))
		b.add(text(api.Bytes, s))
	}
	b.check("an object of each kind")
	return b
}

// 13.2: Obj, Kind, Size, At, Text of objects of each kind, at all places.
func TestAsked(t *testing.T) {
	b := ofEachKind(t)
	for _, place := range b.x.places() {
		v := ref(place)
		for _, c := range asking()[:7] {
			b.ask(fmt.Sprintf("%s of %v", c.name, v), func(m memory) string { return c.ask(m, v) })
		}
		b.ask("Text", func(m memory) string { return told(m.Text(v)) })
		for _, i := range append(edges(), len(b.x.at[place].obj.Vals)) {
			b.ask(fmt.Sprintf("At(%v, %d)", v, i), func(m memory) string { return told(m.At(v, i)) })
		}
	}
	b.check("objects that were asked for all")
}

// 13.2: Set and SetByte of objects of each kind, at all places.
func TestSet(t *testing.T) {
	for _, may := range []bool{false, true} {
		b := ofEachKind(t)
		for _, place := range b.x.places() {
			v := ref(place)
			for _, i := range append(edges(), len(b.x.at[place].obj.Vals)) {
				for _, x := range []api.Val{ref(place), {K: api.Sym, N: i}, ref(-1), ref(300), {K: api.Kinds}, {K: -1}} {
					if b.x.mayVal(x) == may {
						b.ask(fmt.Sprintf("Set(%v, %d, %v)", v, i, x), func(m memory) string { return told(m.Set(v, i, x)) })
					}
				}
			}
			for _, i := range append(edges(), len(b.x.at[place].obj.Bytes)) {
				for _, c := range []byte{0, 'x', 127, 128, 255} {
					b.ask(fmt.Sprintf("SetByte(%v, %d, %d)", v, i, c), func(m memory) string { return told(m.SetByte(v, i, c)) })
				}
			}
		}
		b.check("objects that were set")
	}
}

// 13.2: Set of each value that may be, and of those that may not.
func TestSetToEachValue(t *testing.T) {
	b := withSome(t)
	v := ref(1)
	for _, x := range append(vals(), ref(0), ref(2), ref(4), ref(5), ref(6)) {
		what := fmt.Sprintf("Set to %v", x)
		b.ask(what, func(m memory) string { return told(m.Set(v, 1, x)) })
		b.ask(what+": At", func(m memory) string { return told(m.At(v, 1)) })
		b.ask(what+": at no place", func(m memory) string { return told(m.Set(v, 2, x)) })
	}
	b.check("a value that was set")
}

// 13.2: Set and SetByte by hand: their errors in their order, what is refused
// changing nothing, and what they set.
func TestSetByHand(t *testing.T) {
	h := newHeap(t, 10)
	v, _ := h.Add(vector(number(1), number(2), number(3)))
	s, _ := h.Add(text(api.String, "abc"))
	y, _ := h.Add(text(api.Bytes, "abc"))
	for i, v := range []api.Val{v, s, y} {
		if h.Keep(v, i+1) != api.OK {
			t.Fatal("Keep: refused")
		}
	}
	bad := api.Val{K: api.Kinds}
	list := []struct {
		what string
		e    api.Errno
		want api.Errno
	}{
		{"Set below", h.Set(v, -1, number(9)), api.ErrRange},
		{"Set above", h.Set(v, 3, number(9)), api.ErrRange},
		{"Set below, of none", h.Set(v, -1, bad), api.ErrRange},
		{"Set above, of none", h.Set(v, 3, ref(4)), api.ErrRange},
		{"Set of none", h.Set(v, 0, bad), api.ErrArg},
		{"Set to no object", h.Set(v, 2, ref(3)), api.ErrArg},
		{"Set of a String", h.Set(s, 0, number(9)), api.ErrRange},
		{"SetByte of a Vector", h.SetByte(v, 0, 'x'), api.ErrRange},
		{"SetByte below", h.SetByte(s, -1, 'x'), api.ErrRange},
		{"SetByte above", h.SetByte(s, 3, 'x'), api.ErrRange},
		{"SetByte above, to 128", h.SetByte(s, 3, 128), api.ErrRange},
		{"SetByte to 128", h.SetByte(s, 0, 128), api.ErrArg},
		{"SetByte to 255", h.SetByte(s, 2, 255), api.ErrArg},
		{"SetByte of Bytes above", h.SetByte(y, 3, 128), api.ErrRange},
	}
	for _, x := range list {
		if x.e != x.want {
			t.Errorf("%s: %d, not %d", x.what, x.e, x.want)
		}
	}
	if h.Changed(v) || h.Changed(s) || h.Changed(y) {
		t.Error("what was refused has changed an object")
	}
	for i, e := range []api.Errno{h.Set(v, 0, ref(0)), h.Set(v, 2, api.Val{K: api.Prim, N: -5}), h.SetByte(s, 0, 127), h.SetByte(s, 2, 0), h.SetByte(y, 0, 127), h.SetByte(y, 1, 128), h.SetByte(y, 2, 255)} {
		if e != api.OK {
			t.Errorf("the %d. that is set: %d", i+1, e)
		}
	}
	o, _ := h.Obj(v)
	a, _ := h.Text(s)
	c, _ := h.Text(y)
	if !slices.Equal(o.Vals, []api.Val{ref(0), number(2), {K: api.Prim, N: -5}}) || a != "\x7fb\x00" || c != "\x7f\x80\xff" {
		t.Errorf("set: %v, %q, %q", o.Vals, a, c)
	}
	if !h.Changed(v) || !h.Changed(s) || !h.Changed(y) {
		t.Error("what was set isn't changed")
	}
}

// 13.2: what is set to what it was is changed, too.
func TestSetToTheSame(t *testing.T) {
	h := newHeap(t, 10)
	v, _ := h.Add(pair(1, 2))
	s, _ := h.Add(text(api.String, "abc"))
	h.Keep(v, 1)
	h.Keep(s, 2)
	if h.Set(v, 1, number(2)) != api.OK || h.SetByte(s, 0, 'a') != api.OK || !h.Changed(v) || !h.Changed(s) {
		t.Errorf("Changed: %v, %v", h.Changed(v), h.Changed(s))
	}
}

// The rule of memory: what was handed in to Add is neither changed nor kept.
func TestHandedIn(t *testing.T) {
	for _, room := range []int{0, 10} {
		o := api.Obj{Kind: api.Vector, Vals: append(make([]api.Val, 0, 3+room), number(1), number(2), number(3))}
		s := api.Obj{Kind: api.String, Bytes: append(make([]byte, 0, 3+room), "abc"...)}
		h := newHeap(t, 10)
		v, _ := h.Add(o)
		w, _ := h.Add(s)
		h.Set(v, 0, number(9))
		h.SetByte(w, 0, 'z')
		if !slices.Equal(o.Vals, []api.Val{number(1), number(2), number(3)}) || string(s.Bytes) != "abc" {
			t.Errorf("what was handed in is %v, %q", o.Vals, s.Bytes)
		}
		o.Vals[1], s.Bytes[1] = ref(77), 'y'
		_ = append(o.Vals, number(5))
		got, _ := h.Obj(v)
		text, _ := h.Text(w)
		if !slices.Equal(got.Vals, []api.Val{number(9), number(2), number(3)}) || text != "zbc" {
			t.Errorf("memory has %v, %q", got.Vals, text)
		}
	}
}

// The rule of memory: what is told by Obj is new memory at each call.
func TestTold(t *testing.T) {
	h := newHeap(t, 10)
	v, _ := h.Add(vector(number(1), number(2)))
	w, _ := h.Add(text(api.Bytes, "abc"))
	a, _ := h.Obj(v)
	b, _ := h.Obj(v)
	c, _ := h.Obj(w)
	d, _ := h.Obj(w)
	s, _ := h.Text(w)
	a.Vals[0], c.Bytes[0] = ref(77), 'z'
	_ = append(a.Vals[:1], number(8))
	h.Set(v, 1, number(3))
	h.SetByte(w, 1, 'y')
	if !slices.Equal(a.Vals, []api.Val{ref(77), number(8)}) || !slices.Equal(b.Vals, []api.Val{number(1), number(2)}) {
		t.Errorf("told: %v and %v", a.Vals, b.Vals)
	}
	if string(c.Bytes) != "zbc" || string(d.Bytes) != "abc" || s != "abc" {
		t.Errorf("told: %q, %q, %q", c.Bytes, d.Bytes, s)
	}
	if got, _ := h.Obj(v); !slices.Equal(got.Vals, []api.Val{number(1), number(3)}) {
		t.Errorf("memory has %v", got.Vals)
	}
	if got, _ := h.Text(w); got != "ayc" {
		t.Errorf("memory has %q", got)
	}
}
