package enc_test

import (
	"bytes"
	"math/rand"
	"testing"

	"hibernacle/api"
	"hibernacle/enc"
)

// thing is something that was written: the call that takes it off, what that
// tells, and where its bytes end.
type thing struct {
	call
	taken
	end int
}

// write writes what is to be taken behind b.
func (x *thing) write(b []byte) []byte {
	switch x.name {
	case "Byte":
		b = append(b, byte(x.n))
	case "Count":
		b = enc.Count(b, x.n)
	case "Whole":
		b = enc.Whole(b, x.n)
	case "Sized":
		b = enc.Sized(b, []byte(x.data))
	}
	x.end = len(b)
	return b
}

// anyThing is something that may be written; its call asks for no more than
// it, or for no more than the greatest.
func anyThing(row *rand.Rand) thing {
	x := thing{call: calls()[row.Intn(4)]}
	list := edges()
	switch x.name {
	case "Byte":
		x.n = row.Intn(256)
	case "Count":
		x.n = max(list[row.Intn(len(list))], 0)
	case "Whole":
		x.n = list[row.Intn(len(list))]
	case "Sized":
		x.data = string(mixed(row.Intn(20) * row.Intn(20)))
	}
	if row.Intn(2) == 0 {
		x.most = max(x.n, len(x.data))
	}
	return x
}

// written are some things one behind the other, and their bytes.
func written(row *rand.Rand) ([]thing, []byte) {
	var list []thing
	var b []byte
	for range row.Intn(9) {
		x := anyThing(row)
		b = x.write(b)
		list = append(list, x)
	}
	return list, b
}

// 3.4: each number by itself is taken off as it was written, and is all.
func TestNumbersAndBack(t *testing.T) {
	for _, n := range edges() {
		r := enc.Read(enc.Whole(nil, n))
		if got := r.Whole(); got != n || r.End() != api.OK {
			t.Errorf("Whole of %d: %d, fault %d", n, got, r.Fault())
		}
		n = max(n, 0)
		for _, most := range []int{n, greatest} {
			r = enc.Read(enc.Count(nil, n))
			if got := r.Count(most); got != n || r.End() != api.OK {
				t.Errorf("Count(%d) of %d: %d, fault %d", most, n, got, r.Fault())
			}
		}
	}
}

// 3.4: sized bytes of none, of few and of many are taken off as they were.
func TestSizedAndBack(t *testing.T) {
	for _, n := range []int{0, 1, 2, 127, 128, 300, 16384, 100_003} {
		data := mixed(n)
		for _, most := range []int{n, greatest} {
			r := enc.Read(enc.Sized(nil, data))
			if got := r.Sized(most); !bytes.Equal(got, data) || r.End() != api.OK {
				t.Errorf("Sized(%d) of %d bytes: %d bytes, fault %d", most, n, len(got), r.Fault())
			}
		}
	}
}

// 3.4: any things one behind the other are taken off as they were, and are
// all; with something behind them that is left.
func TestThingsWhole(t *testing.T) {
	row := rand.New(rand.NewSource(34))
	for range 3000 {
		list, b := written(row)
		behind := mixed(row.Intn(4))
		r := enc.Read(append(bytes.Clone(b), behind...))
		for _, x := range list {
			if got := x.on(r); got != x.taken || r.Left() != len(b)-x.end+len(behind) {
				t.Fatalf("%s(%d) took %v, left %d, asked for %v", x.name, x.most, got, r.Left(), x.taken)
			}
		}
		if len(behind) == 0 {
			if e := r.End(); e != api.OK || r.Left() != 0 {
				t.Fatalf("behind all that was written: %d, left %d", e, r.Left())
			}
			continue
		}
		if e := r.End(); e != api.ErrForm {
			t.Fatalf("End with %d bytes behind: %d", len(behind), e)
		}
		checkFault(t, "with something behind", r, len(behind), api.ErrForm)
	}
}

// 3.4: of less bytes than all that was written what is whole is taken off,
// and then they end.
func TestThingsCut(t *testing.T) {
	row := rand.New(rand.NewSource(35))
	for range 200 {
		list, b := written(row)
		for cut := range b {
			checkCut(t, list, b[:cut])
		}
	}
}

func checkCut(t *testing.T, list []thing, b []byte) {
	t.Helper()
	r, whole := enc.Read(b), 0
	for _, x := range list {
		got := x.on(r)
		if x.end > len(b) {
			if got != (taken{}) {
				t.Fatalf("%s(%d) of what is cut took %v", x.name, x.most, got)
			}
			break
		}
		if got != x.taken || r.Fault() != api.OK {
			t.Fatalf("%s(%d) ahead of the cut took %v, fault %d", x.name, x.most, got, r.Fault())
		}
		whole = x.end
	}
	checkFault(t, "cut", r, len(b)-whole, api.ErrEnd)
}
