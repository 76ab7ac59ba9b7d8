package heap

import (
	"slices"

	"hibernacle/api"
)

// mayVal tells whether a value may be in memory.
func (h *Heap) mayVal(v api.Val) bool {
	if v.K == api.Ref {
		return h.Has(v)
	}
	return 0 <= v.K && v.K < api.Kinds
}

// mayObj tells whether an object may be in memory.
func (h *Heap) mayObj(o api.Obj) bool {
	if o.Kind < 0 || o.Kind >= api.ObjKinds {
		return false
	}
	least, most := valsOf(o.Kind)
	if len(o.Vals) < least || len(o.Vals) > most || len(o.Bytes) > bytesOf(o.Kind) {
		return false
	}
	for _, v := range o.Vals {
		if !h.mayVal(v) {
			return false
		}
	}
	return true
}

// valsOf tells how many values an object of a kind has, from least to most.
func valsOf(k api.ObjKind) (least, most int) {
	switch k {
	case api.Pair, api.Closure, api.Error:
		return 2, 2
	case api.Box:
		return 1, 1
	case api.String, api.Bytes:
		return 0, 0
	}
	return 0, api.MaxVals
}

// bytesOf tells how many bytes an object of a kind has at most.
func bytesOf(k api.ObjKind) int {
	if k == api.String || k == api.Bytes {
		return api.MaxBytes
	}
	return 0
}

// copyOf is an object by itself.
func copyOf(o api.Obj) api.Obj {
	return api.Obj{Kind: o.Kind, Vals: slices.Clone(o.Vals), Bytes: slices.Clone(o.Bytes)}
}
