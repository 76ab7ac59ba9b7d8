package heap_test

import (
	"iter"
	"maps"
	"slices"

	"hibernacle/api"
	"hibernacle/heap"
)

// fetcher is what objects that are away are fetched by.
type fetcher = func(n int) (api.Obj, api.Errno)

// memory is what a memory, and a plain one, can be asked.
type memory interface {
	Add(o api.Obj) (api.Val, api.Errno)
	Has(v api.Val) bool
	Obj(v api.Val) (api.Obj, api.Errno)
	Kind(v api.Val) (api.ObjKind, api.Errno)
	Size(v api.Val) (int, api.Errno)
	At(v api.Val, i int) (api.Val, api.Errno)
	Set(v api.Val, i int, x api.Val) api.Errno
	Text(v api.Val) (string, api.Errno)
	SetByte(v api.Val, i int, c byte) api.Errno
	Drop(v api.Val) bool
	Live() int
	Limit() int
	All() iter.Seq[api.Val]
	Fetch(by func(n int) (api.Obj, api.Errno))
	Away(n int) (api.Val, api.Errno)
	IsAway(v api.Val) bool
	Keep(v api.Val, n int) api.Errno
	Number(v api.Val) int
	Find(n int) (api.Val, bool)
	Forget(v api.Val) bool
	Turn(to func(n int) int) api.Errno
	Changed(v api.Val) bool
	Send(v api.Val) bool
}

var _ memory = (*heap.Heap)(nil)

// thing is an object by the chapter's words.
type thing struct {
	obj           api.Obj
	number        int
	away, changed bool
}

// plain is a memory by the chapter's words: a map from places to objects.
type plain struct {
	limit int
	at    map[int]*thing
	by    fetcher
}

func newPlain(limit int) *plain {
	return &plain{limit: limit, at: map[int]*thing{}}
}

func (x *plain) clone() *plain {
	y := &plain{limit: x.limit, at: map[int]*thing{}, by: x.by}
	for place, o := range x.at {
		other := *o
		other.obj = sameObj(o.obj)
		y.at[place] = &other
	}
	return y
}

// sameObj is an object in memory of its own.
func sameObj(o api.Obj) api.Obj {
	return api.Obj{Kind: o.Kind, Vals: append([]api.Val(nil), o.Vals...), Bytes: append([]byte(nil), o.Bytes...)}
}

func (x *plain) mayVal(v api.Val) bool {
	switch v.K {
	case api.Nil, api.Bool, api.Int, api.Char, api.Sym, api.Prim, api.Unspec, api.Eof:
		return true
	case api.Ref:
		return x.at[v.N] != nil
	}
	return false
}

func (x *plain) mayObj(o api.Obj) bool {
	counts := map[api.ObjKind][2]int{
		api.Pair: {2, 2}, api.Vector: {0, 256}, api.String: {0, 0}, api.Bytes: {0, 0}, api.Box: {1, 1}, api.Closure: {2, 2}, api.Frame: {0, 256},
		api.Code: {0, 256}, api.Error: {2, 2}, api.Values: {0, 256}, api.Kont: {0, 256}, api.Cont: {0, 256}, api.Port: {0, 256}, api.Alias: {0, 256},
	}
	count, is := counts[o.Kind]
	bytes := map[api.ObjKind]int{api.String: 4096, api.Bytes: 4096}[o.Kind]
	return is && count[0] <= len(o.Vals) && len(o.Vals) <= count[1] && len(o.Bytes) <= bytes &&
		!slices.ContainsFunc(o.Vals, func(v api.Val) bool { return !x.mayVal(v) })
}

func (x *plain) lay(o *thing) api.Val {
	place := 0
	for x.at[place] != nil {
		place++
	}
	x.at[place] = o
	return ref(place)
}

func (x *plain) thing(v api.Val) *thing {
	if v.K != api.Ref {
		return nil
	}
	return x.at[v.N]
}

// there is an object that is asked for something.
func (x *plain) there(v api.Val) (*thing, api.Errno) {
	o := x.thing(v)
	if o == nil {
		return nil, api.ErrNone
	}
	if !o.away {
		return o, api.OK
	}
	if x.by == nil {
		return nil, api.ErrState
	}
	obj, e := x.by(o.number)
	if e != api.OK {
		return nil, e
	}
	if !x.mayObj(obj) {
		return nil, api.ErrHarm
	}
	o.obj, o.away, o.changed = sameObj(obj), false, false
	return o, api.OK
}

func (x *plain) Add(o api.Obj) (api.Val, api.Errno) {
	if !x.mayObj(o) {
		return api.Val{}, api.ErrArg
	}
	if len(x.at) == x.limit {
		return api.Val{}, api.ErrFull
	}
	return x.lay(&thing{obj: sameObj(o), changed: true}), api.OK
}

func (x *plain) Has(v api.Val) bool { return x.thing(v) != nil }

func (x *plain) Obj(v api.Val) (api.Obj, api.Errno) {
	o, e := x.there(v)
	if e != api.OK {
		return api.Obj{}, e
	}
	return sameObj(o.obj), api.OK
}

func (x *plain) Kind(v api.Val) (api.ObjKind, api.Errno) {
	o, e := x.Obj(v)
	return o.Kind, e
}

func (x *plain) Size(v api.Val) (int, api.Errno) {
	o, e := x.Obj(v)
	return len(o.Vals), e
}

func (x *plain) At(v api.Val, i int) (api.Val, api.Errno) {
	o, e := x.Obj(v)
	if e == api.OK && (i < 0 || i >= len(o.Vals)) {
		e = api.ErrRange
	}
	if e != api.OK {
		return api.Val{}, e
	}
	return o.Vals[i], api.OK
}

func (x *plain) Set(v api.Val, i int, y api.Val) api.Errno {
	if _, e := x.At(v, i); e != api.OK {
		return e
	}
	if !x.mayVal(y) {
		return api.ErrArg
	}
	x.at[v.N].obj.Vals[i] = y
	x.at[v.N].changed = true
	return api.OK
}

func (x *plain) Text(v api.Val) (string, api.Errno) {
	o, e := x.Obj(v)
	return string(o.Bytes), e
}

func (x *plain) SetByte(v api.Val, i int, c byte) api.Errno {
	o, e := x.Obj(v)
	if e == api.OK && (i < 0 || i >= len(o.Bytes)) {
		e = api.ErrRange
	}
	if e == api.OK && o.Kind == api.String && c >= 128 {
		e = api.ErrArg
	}
	if e == api.OK {
		x.at[v.N].obj.Bytes[i] = c
		x.at[v.N].changed = true
	}
	return e
}

func (x *plain) Drop(v api.Val) bool {
	was := x.Has(v)
	if was {
		delete(x.at, v.N)
	}
	return was
}

func (x *plain) Live() int { return len(x.at) }

func (x *plain) Limit() int { return x.limit }

func (x *plain) places() []int { return slices.Sorted(maps.Keys(x.at)) }

func (x *plain) All() iter.Seq[api.Val] {
	var all []api.Val
	for _, place := range x.places() {
		all = append(all, ref(place))
	}
	return slices.Values(all)
}

func (x *plain) Fetch(by func(n int) (api.Obj, api.Errno)) { x.by = by }

func (x *plain) Away(n int) (api.Val, api.Errno) {
	if n < 1 || n > 16384 {
		return api.Val{}, api.ErrRange
	}
	if v, there := x.Find(n); there {
		return v, api.OK
	}
	if len(x.at) == x.limit {
		return api.Val{}, api.ErrFull
	}
	return x.lay(&thing{number: n, away: true}), api.OK
}

func (x *plain) IsAway(v api.Val) bool { return x.Has(v) && x.at[v.N].away }

func (x *plain) Keep(v api.Val, n int) api.Errno {
	if !x.Has(v) {
		return api.ErrNone
	}
	if n < 1 || n > 16384 {
		return api.ErrRange
	}
	for place, o := range x.at {
		if place != v.N && o.number == n {
			return api.ErrTwice
		}
	}
	x.at[v.N].number, x.at[v.N].changed = n, false
	return api.OK
}

func (x *plain) Number(v api.Val) int {
	if !x.Has(v) {
		return 0
	}
	return x.at[v.N].number
}

func (x *plain) Find(n int) (api.Val, bool) {
	for place, o := range x.at {
		if n != 0 && o.number == n {
			return ref(place), true
		}
	}
	return api.Val{}, false
}

func (x *plain) Forget(v api.Val) bool {
	if !x.Has(v) || x.IsAway(v) {
		return false
	}
	x.at[v.N].number, x.at[v.N].changed = 0, true
	return true
}

func (x *plain) Turn(to func(n int) int) api.Errno {
	turned := map[int]int{}
	seen := map[int]bool{}
	for _, place := range x.places() {
		o := x.at[place]
		if o.number == 0 {
			continue
		}
		n := to(o.number)
		if n < 0 || n > 16384 {
			return api.ErrRange
		}
		if n == 0 && o.away {
			return api.ErrState
		}
		if n != 0 && seen[n] {
			return api.ErrTwice
		}
		turned[place], seen[n] = n, true
	}
	for place, n := range turned {
		x.at[place].number = n
		if n == 0 {
			x.at[place].changed = true
		}
	}
	return api.OK
}

func (x *plain) Changed(v api.Val) bool { return x.Has(v) && !x.at[v.N].away && x.at[v.N].changed }

func (x *plain) Send(v api.Val) bool {
	if !x.Has(v) || x.at[v.N].number == 0 || !x.at[v.N].away && x.at[v.N].changed {
		return false
	}
	x.at[v.N].away = true
	return true
}
