package obj

import (
	"math"
	"slices"

	"hibernacle/api"
	"hibernacle/sym"
)

const (
	maxASCII = 127
	maxByte  = 255
	maxPrim  = 255
	// maxTag is the highest number that tells what code does.
	maxTag = 63
)

// span is a row of numbers, from least to most.
type span struct{ least, most int }

func (s span) has(n int) bool {
	return s.least <= n && n <= s.most
}

// rule tells which numbers a part of a kind may have, and whether there may be
// such a part.
type rule func(k api.Kind) (span, bool)

// numbers is the rule that all parts follow.
func numbers(k api.Kind) (span, bool) {
	switch k {
	case api.Nil, api.Unspec, api.Eof, api.Sym:
		return span{}, true
	case api.Bool:
		return span{0, 1}, true
	case api.Char:
		return span{0, maxASCII}, true
	case api.Prim:
		return span{0, maxPrim}, true
	case api.Int:
		return span{math.MinInt, math.MaxInt}, true
	case api.Ref:
		return span{1, api.MaxCells}, true
	}
	return span{}, false
}

// oneOf is the rule of a part that must be of one of some kinds.
func oneOf(kinds ...api.Kind) rule {
	return func(k api.Kind) (span, bool) {
		s, there := numbers(k)
		return s, there && slices.Contains(kinds, k)
	}
}

// tag is the rule of a code's first part.
func tag(k api.Kind) (span, bool) {
	return span{0, maxTag}, k == api.Int
}

// mayBe tells whether a part may be whose number is one of these.
func mayBe(p Part, s span) bool {
	named := p.S == ""
	if p.K == api.Sym {
		named = sym.May(p.S)
	}
	return named && s.has(p.N)
}

// needs is what a kind asks of its records.
type needs struct {
	parts span   // how many there are
	first []rule // what the first ones follow
	bytes int    // how many there are at most
	high  byte   // the highest one
}

// needsOf tells what a kind asks for, and whether it can be kept.
func needsOf(k api.ObjKind) (needs, bool) {
	n := needs{first: firstOf(k), high: maxByte}
	switch k {
	case api.Frame, api.Code:
		n.parts.least = 1
		fallthrough
	case api.Vector, api.Values:
		n.parts.most = api.MaxVals
	case api.Box:
		n.parts = span{1, 1}
	case api.Pair, api.Closure, api.Error:
		n.parts = span{2, 2}
	case api.String:
		n.high = maxASCII
		fallthrough
	case api.Bytes:
		n.bytes = api.MaxBytes
	default:
		return needs{}, false
	}
	return n, true
}

// firstOf is what a kind asks of its first parts.
func firstOf(k api.ObjKind) []rule {
	switch k {
	case api.Closure:
		return []rule{oneOf(api.Ref), oneOf(api.Ref, api.Nil)}
	case api.Frame:
		return []rule{oneOf(api.Ref, api.Nil)}
	case api.Code:
		return []rule{tag}
	}
	return nil
}

// at is the rule of the part at a place.
func (n needs) at(i int) rule {
	if i < len(n.first) {
		return n.first[i]
	}
	return numbers
}

// takeParts tells whether each part may be at its place.
func (n needs) takeParts(parts []Part) bool {
	for i, p := range parts {
		s, there := n.at(i)(p.K)
		if !there || !mayBe(p, s) {
			return false
		}
	}
	return true
}

// takeBytes tells whether there may be these bytes.
func (n needs) takeBytes(b string) bool {
	if len(b) > n.bytes {
		return false
	}
	for i := range len(b) {
		if b[i] > n.high {
			return false
		}
	}
	return true
}
