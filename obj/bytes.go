package obj

import (
	"hibernacle/api"
	"hibernacle/enc"
)

// Encode is a record's bytes.
func Encode(r Rec) (string, api.Errno) {
	switch {
	case !Kept(r.Kind):
		return "", api.ErrKeep
	case !May(r):
		return "", api.ErrArg
	}
	b := enc.Count([]byte{byte(r.Kind)}, len(r.Parts))
	for _, p := range r.Parts {
		// Each part's bytes are made by themselves, as layer 3 would copy all
		// that is ahead of them anew.
		b = append(b, partBytes(p)...)
	}
	return string(enc.Sized(b, []byte(r.Bytes))), api.OK
}

// partBytes is the bytes of a part that may be.
func partBytes(p Part) []byte {
	b := []byte{byte(p.K)}
	switch p.K {
	case api.Bool, api.Char, api.Prim, api.Ref:
		return enc.Count(b, p.N)
	case api.Int:
		return enc.Whole(b, p.N)
	case api.Sym:
		return enc.Sized(b, []byte(p.S))
	}
	return b
}

// Decode is the record of bytes.
func Decode(b string) (Rec, api.Errno) {
	in := enc.Read([]byte(b))
	r := Rec{Kind: api.ObjKind(in.Byte())}
	n, kept := needsOf(r.Kind)
	if e := judge(in, kept); e != api.OK {
		return Rec{}, e
	}
	// What a kind asks for is asked as soon as it can be, because of two
	// faults the first one counts.
	count := in.Count(n.parts.most)
	if e := judge(in, n.parts.has(count)); e != api.OK {
		return Rec{}, e
	}
	for i := range count {
		p, e := takePart(in, n.at(i))
		if e != api.OK {
			return Rec{}, e
		}
		r.Parts = append(r.Parts, p)
	}
	r.Bytes = string(in.Sized(n.bytes))
	if e := judge(in, n.takeBytes(r.Bytes)); e != api.OK {
		return Rec{}, e
	}
	if e := in.End(); e != api.OK {
		return Rec{}, e
	}
	return r, api.OK
}

// takePart takes a part that follows a rule.
func takePart(in *enc.Reader, at rule) (Part, api.Errno) {
	p := Part{K: api.Kind(in.Byte())}
	s, there := at(p.K)
	if e := judge(in, there); e != api.OK {
		return Part{}, e
	}
	switch p.K {
	case api.Bool, api.Char, api.Prim, api.Ref:
		p.N = in.Count(s.most)
	case api.Int:
		p.N = in.Whole()
	case api.Sym:
		p.S = string(in.Sized(api.MaxName))
	}
	if e := judge(in, mayBe(p, s)); e != api.OK {
		return Part{}, e
	}
	return p, api.OK
}

// judge tells what is wrong with what was taken last: that it couldn't be
// taken comes ahead of what it is.
func judge(in *enc.Reader, right bool) api.Errno {
	switch e := in.Fault(); {
	case e == api.ErrEnd:
		return api.ErrEnd
	case e != api.OK || !right:
		return api.ErrForm
	}
	return api.OK
}
