package datum

import (
	"iter"
	"slices"

	"hibernacle/api"
	"hibernacle/heap"
)

// Items is the pairs of a chain, with their items.
func Items(h *heap.Heap, v api.Val) iter.Seq2[api.Val, api.Val] {
	// What is told stays as it is, whatever memory is changed to: also amid
	// the loop.
	var was [][2]api.Val
	for pair, vals := range pairs(h, v) {
		was = append(was, [2]api.Val{pair, vals[0]})
	}
	return func(yield func(api.Val, api.Val) bool) {
		for _, x := range was {
			if !yield(x[0], x[1]) {
				return
			}
		}
	}
}

// Chain is a chain's items, and its end.
func Chain(h *heap.Heap, v api.Val) ([]api.Val, api.Val, bool) {
	if h == nil {
		return nil, api.Val{}, false
	}
	var been, items []api.Val
	end := v
	for pair, vals := range pairs(h, v) {
		been = append(been, pair)
		items = append(items, vals[0])
		end = vals[1]
	}
	if slices.Contains(been, end) {
		return items, api.Val{}, false
	}
	return items, end, true
}

// List is a list's items.
func List(h *heap.Heap, v api.Val) ([]api.Val, bool) {
	items, end, ends := Chain(h, v)
	if !ends || end.K != api.Nil {
		return nil, false
	}
	return items, true
}

// Append is a list with something behind it.
func Append(h *heap.Heap, a, b api.Val) (api.Val, api.Errno) {
	items, is := List(h, a)
	if !is {
		return api.Val{}, api.ErrArg
	}
	return Build(h, items, b)
}

// Reverse is a list, the last item first.
func Reverse(h *heap.Heap, v api.Val) (api.Val, api.Errno) {
	items, end, ends := Chain(h, v)
	if !ends || end.K != api.Nil {
		return api.Val{}, api.ErrArg
	}
	slices.Reverse(items)
	// A Nil may have any number: reversed twice a list is alike itself just
	// if it keeps its own.
	return Build(h, items, end)
}

// Member is the first pair whose item is the same as a value.
func Member(h *heap.Heap, x, v api.Val, same func(a, b api.Val) bool) api.Val {
	if same == nil {
		return no()
	}
	for pair, vals := range pairs(h, v) {
		if same(x, vals[0]) {
			return pair
		}
	}
	return no()
}

// Assoc is the first item that is a pair whose first value is the same as a
// value.
func Assoc(h *heap.Heap, x, v api.Val, same func(a, b api.Val) bool) api.Val {
	if same == nil {
		return no()
	}
	for _, vals := range pairs(h, v) {
		if first, _, is := Pair(h, vals[0]); is && same(x, first) {
			return vals[0]
		}
	}
	return no()
}

// no is what is told if nothing is found.
func no() api.Val {
	return api.Val{K: api.Bool}
}

// pairs is the pairs of a chain, each once, with their two values, as memory
// has them when they are come to: what isn't come to isn't fetched.
func pairs(h *heap.Heap, v api.Val) iter.Seq2[api.Val, [2]api.Val] {
	return func(yield func(api.Val, [2]api.Val) bool) {
		been := map[api.Val]struct{}{}
		for pair := v; ; {
			if _, was := been[pair]; was {
				return
			}
			been[pair] = struct{}{}
			first, second, is := Pair(h, pair)
			if !is || !yield(pair, [2]api.Val{first, second}) {
				return
			}
			pair = second
		}
	}
}
