package enc_test

import (
	"bytes"
	"math/big"
	"math/rand"
	"strconv"
	"testing"

	"hibernacle/api"
	"hibernacle/enc"
)

// call is a call of a reader that takes something, with what it may have at
// most.
type call struct {
	name string
	most int
}

// taken is what a call told: a number (of Byte too), or bytes.
type taken struct {
	n    int
	data string
}

// String writes bytes so that they may be looked at.
func (x taken) String() string {
	return strconv.Itoa(x.n) + " " + strconv.Quote(x.data)
}

func (c call) on(r *enc.Reader) taken {
	switch c.name {
	case "Byte":
		return taken{n: int(r.Byte())}
	case "Count":
		return taken{n: r.Count(c.most)}
	case "Whole":
		return taken{n: r.Whole()}
	}
	return taken{data: string(r.Sized(c.most))}
}

// calls are each call once, with a most that asks for little.
func calls() []call {
	return []call{{name: "Byte"}, {"Count", greatest}, {name: "Whole"}, {"Sized", greatest}}
}

// checkFault asks for a reader's fault and for what it has left, and that no
// call takes anything any more, whatever most is, nor changes the fault.
func checkFault(t *testing.T, name string, r *enc.Reader, left int, fault api.Errno) {
	t.Helper()
	for range 2 {
		if r.Fault() != fault || r.Left() != left {
			t.Fatalf("%s: fault %d, left %d, asked for %d and %d", name, r.Fault(), r.Left(), fault, left)
		}
		for _, c := range append(calls(), call{"Count", -1}, call{"Count", 0}, call{"Sized", -1}, call{"Sized", 0}) {
			if got := c.on(r); got != (taken{}) {
				t.Fatalf("%s: behind the fault %s told %v", name, c.name, got)
			}
		}
		if r.Sized(9) != nil {
			t.Fatalf("%s: behind the fault Sized told bytes", name)
		}
		if e := r.End(); e != fault {
			t.Fatalf("%s: behind the fault %d End told %d", name, fault, e)
		}
	}
}

// 3.2: the chapter's numbers, and others, taken off one behind the other.
func TestTaken(t *testing.T) {
	r := enc.Read([]byte("\x07\xac\x02\x01\x02ab\x00\x00\xff"))
	if got := r.Byte(); got != 7 {
		t.Errorf("Byte: %d", got)
	}
	if got := r.Count(300); got != 300 {
		t.Errorf("Count(300): %d", got)
	}
	if got := r.Whole(); got != -1 {
		t.Errorf("Whole: %d", got)
	}
	if got := r.Left(); got != 6 {
		t.Errorf("Left: %d", got)
	}
	if got := r.Sized(2); string(got) != "ab" {
		t.Errorf("Sized(2): %q", got)
	}
	if got := r.Sized(0); len(got) != 0 {
		t.Errorf("Sized(0): %q", got)
	}
	if got := r.Count(0); got != 0 || r.Left() != 1 {
		t.Errorf("Count(0): %d, left %d", got, r.Left())
	}
	if got := r.Byte(); got != 255 {
		t.Errorf("Byte: %d", got)
	}
	if r.Fault() != api.OK || r.Left() != 0 || r.End() != api.OK || r.Fault() != api.OK {
		t.Errorf("at the end: fault %d, left %d, end %d", r.Fault(), r.Left(), r.End())
	}
}

// 3.2: each byte is taken as it is.
func TestEachByte(t *testing.T) {
	for one := range 256 {
		r := enc.Read([]byte{byte(one)})
		if got := r.Byte(); int(got) != one || r.End() != api.OK {
			t.Errorf("Byte of %d: %d, fault %d", one, got, r.Fault())
		}
	}
}

// 3.2: what is told of a call by itself; of a fault nothing is gone past.
func TestFaults(t *testing.T) {
	zeros := bytes.Repeat([]byte{128}, 30)
	rows := []struct {
		call
		b     []byte
		fault api.Errno
	}{
		// Bytes are lacking.
		{call{name: "Byte"}, nil, api.ErrEnd},
		{call{"Count", 9}, nil, api.ErrEnd},
		{call{"Count", 0}, []byte{128}, api.ErrEnd},
		{call{"Count", greatest}, filled(8), api.ErrEnd},
		{call{name: "Whole"}, nil, api.ErrEnd},
		{call{name: "Whole"}, []byte{255}, api.ErrEnd},
		{call{name: "Whole"}, filled(9), api.ErrEnd},
		{call{"Sized", 0}, nil, api.ErrEnd},
		{call{"Sized", 500}, []byte{172}, api.ErrEnd},
		{call{"Sized", 9}, []byte{1}, api.ErrEnd},
		{call{"Sized", 9}, []byte("\x03ab"), api.ErrEnd},
		{call{"Sized", greatest}, filled(8, 127), api.ErrEnd},
		{call{"Sized", 300}, append([]byte{172, 2}, make([]byte, 299)...), api.ErrEnd},
		// A byte more than it needs.
		{call{"Count", 9}, []byte{128, 0}, api.ErrForm},
		{call{"Count", 9}, []byte{133, 0}, api.ErrForm},
		{call{"Count", greatest}, filled(9, 0), api.ErrForm},
		{call{name: "Whole"}, []byte{128, 0}, api.ErrForm},
		{call{name: "Whole"}, []byte{129, 128, 0}, api.ErrForm},
		{call{name: "Whole"}, filled(9, 0), api.ErrForm},
		{call{"Sized", 9}, []byte{130, 0, 'a', 'b'}, api.ErrForm},
		// More than ten bytes.
		{call{"Count", greatest}, filled(10, 1), api.ErrForm},
		{call{"Count", greatest}, append(zeros[:10:10], 0), api.ErrForm},
		{call{"Count", greatest}, append(zeros[:10:10], 1), api.ErrForm},
		{call{name: "Whole"}, filled(10, 1), api.ErrForm},
		{call{name: "Whole"}, append(zeros[:10:10], 0), api.ErrForm},
		{call{name: "Whole"}, append(zeros[:10:10], 1), api.ErrForm},
		{call{name: "Whole"}, append(zeros[:29:29], 1), api.ErrForm},
		{call{"Sized", greatest}, append(zeros[:10:10], 1), api.ErrForm},
		// More than its bits.
		{call{"Count", greatest}, filled(9, 1), api.ErrForm},
		{call{"Count", greatest}, append(zeros[:9:9], 1), api.ErrForm},
		{call{"Count", 9}, append(zeros[:9:9], 1), api.ErrForm},
		{call{name: "Whole"}, filled(9, 2), api.ErrForm},
		{call{name: "Whole"}, filled(9, 3), api.ErrForm},
		{call{name: "Whole"}, append(zeros[:9:9], 2), api.ErrForm},
		{call{name: "Whole"}, append(zeros[:9:9], 127), api.ErrForm},
		{call{"Sized", greatest}, append(zeros[:9:9], 1), api.ErrForm},
		// Above most, or most is below 0.
		{call{"Count", 299}, []byte{172, 2}, api.ErrRange},
		{call{"Count", 0}, []byte{1}, api.ErrRange},
		{call{"Count", greatest - 1}, filled(8, 127), api.ErrRange},
		{call{"Count", -1}, []byte{0}, api.ErrRange},
		{call{"Count", least}, []byte{5}, api.ErrRange},
		{call{"Sized", 1}, []byte("\x02ab"), api.ErrRange},
		{call{"Sized", 0}, []byte("\x01a"), api.ErrRange},
		{call{"Sized", -1}, []byte{0}, api.ErrRange},
		{call{"Sized", least}, []byte("\x02ab"), api.ErrRange},
		// Of several that apply, the one that is named first.
		{call{"Count", -1}, nil, api.ErrRange},
		{call{"Count", -1}, []byte{128, 0}, api.ErrRange},
		{call{"Sized", -1}, nil, api.ErrRange},
		{call{"Sized", 2}, []byte("\x03ab"), api.ErrRange},
		{call{"Sized", 2}, []byte{172, 2}, api.ErrRange},
		{call{"Count", greatest}, zeros[:10], api.ErrEnd},
		{call{name: "Whole"}, zeros[:10], api.ErrEnd},
		{call{name: "Whole"}, zeros, api.ErrEnd},
		{call{name: "Whole"}, filled(30), api.ErrEnd},
	}
	for _, row := range rows {
		r := enc.Read(row.b)
		if got := row.on(r); got != (taken{}) {
			t.Errorf("%s(%d) of %v told %v", row.name, row.most, row.b, got)
		}
		checkFault(t, row.name, r, len(row.b), row.fault)
	}
}

// 3.2: a fault doesn't hang on what comes behind it, nor on what was taken
// ahead of it.
func TestFaultsWithinMore(t *testing.T) {
	rows := []struct {
		call
		b     []byte
		fault api.Errno
	}{
		{call{"Count", 9}, []byte{128, 0}, api.ErrForm},
		{call{"Count", 9}, []byte{10}, api.ErrRange},
		{call{"Count", -1}, []byte{0}, api.ErrRange},
		{call{"Count", greatest}, filled(9, 1), api.ErrForm},
		{call{name: "Whole"}, filled(9, 2), api.ErrForm},
		{call{name: "Whole"}, filled(10, 1), api.ErrForm},
		{call{"Sized", 1}, []byte{2}, api.ErrRange},
		{call{"Sized", 9}, []byte{129, 0}, api.ErrForm},
	}
	for _, row := range rows {
		b := append(append([]byte("\x05\x02ab"), row.b...), "\x01\x01\x01"...)
		r := enc.Read(b)
		if r.Byte() != 5 || string(r.Sized(2)) != "ab" {
			t.Fatalf("taken ahead: fault %d", r.Fault())
		}
		if got := row.on(r); got != (taken{}) {
			t.Errorf("%s(%d) of %v told %v", row.name, row.most, row.b, got)
		}
		checkFault(t, row.name, r, len(row.b)+3, row.fault)
	}
}

// 3.2, 3.3: a reader of no bytes.
func TestReaderOfNothing(t *testing.T) {
	for _, b := range [][]byte{nil, {}, []byte("ab")[:0]} {
		r := enc.Read(b)
		if r == nil || r.Left() != 0 || r.Fault() != api.OK || r.End() != api.OK || r.Fault() != api.OK {
			t.Fatalf("a reader of nothing: left %d, fault %d", r.Left(), r.Fault())
		}
		for _, c := range calls() {
			r := enc.Read(b)
			if got := c.on(r); got != (taken{}) {
				t.Errorf("%s of nothing: %v", c.name, got)
			}
			checkFault(t, c.name, r, 0, api.ErrEnd)
		}
	}
}

// 3.3: End with bytes left is a fault from then on, but no earlier.
func TestEndWithBytesLeft(t *testing.T) {
	r := enc.Read([]byte{1, 2, 3})
	if r.Byte() != 1 || r.Fault() != api.OK || r.Left() != 2 {
		t.Fatalf("ahead of End: fault %d, left %d", r.Fault(), r.Left())
	}
	if e := r.End(); e != api.ErrForm {
		t.Errorf("End with bytes left: %d", e)
	}
	checkFault(t, "End", r, 2, api.ErrForm)
}

// 3.3: End with none left isn't a fault, and what is asked then ends.
func TestEndWithNoneLeft(t *testing.T) {
	r := enc.Read([]byte{1})
	if r.Byte() != 1 || r.End() != api.OK || r.End() != api.OK || r.Fault() != api.OK || r.Left() != 0 {
		t.Fatalf("at the end: fault %d, left %d", r.Fault(), r.Left())
	}
	if r.Byte() != 0 {
		t.Error("Byte behind the end isn't 0")
	}
	checkFault(t, "behind the end", r, 0, api.ErrEnd)
}

// 3.3: the first fault stays, whatever a later call would have met with.
func TestFirstFaultStays(t *testing.T) {
	r := enc.Read([]byte{128, 0, 5})
	r.Count(9)
	r.Count(-1)
	r.Sized(1)
	checkFault(t, "form ahead of range", r, 3, api.ErrForm)
	r = enc.Read([]byte{128, 0, 5})
	r.Sized(-1)
	r.Whole()
	checkFault(t, "range ahead of form", r, 3, api.ErrRange)
}

// 3.3: a nil reader.
func TestNilReader(t *testing.T) {
	var none *enc.Reader
	checkFault(t, "nil", none, 0, api.ErrArg)
}

// 3.2: Read copies what it reads, and changes none of it.
func TestReadCopies(t *testing.T) {
	b := []byte("\x07\xac\x02\x02ab\x01")
	kept := bytes.Clone(b)
	r, other := enc.Read(b), enc.Read(b)
	readAll := func(r *enc.Reader) bool {
		return r.Byte() == 7 && r.Count(300) == 300 && string(r.Sized(2)) == "ab" && r.Whole() == -1 && r.End() == api.OK
	}
	if !readAll(other) || !bytes.Equal(b, kept) {
		t.Fatalf("reading made %q of %q, fault %d", b, kept, other.Fault())
	}
	for i := range b {
		b[i] ^= 255
	}
	if !readAll(r) {
		t.Errorf("behind a change of its bytes a reader's fault is %d", r.Fault())
	}
	part := enc.Read(kept[:1])
	if part.Byte() != 7 || part.Left() != 0 || part.End() != api.OK {
		t.Errorf("a reader goes on past its bytes, into their room")
	}
}

// 3.2: what Sized tells shares memory neither with what is read nor with
// what another call tells.
func TestSizedIsNewMemory(t *testing.T) {
	b := []byte("\x02ab\x02cd\x00\x02ef")
	kept := bytes.Clone(b)
	r, again := enc.Read(b), enc.Read(b)
	ab := r.Sized(2)
	copy(ab, "XY")
	_ = append(ab, 'Z')
	cd, none := r.Sized(2), r.Sized(2)
	_ = append(cd, 'Z')
	_ = append(none, 'Z')
	ef := r.Sized(2)
	if string(ab) != "XY" || string(ef) != "ef" || r.End() != api.OK {
		t.Errorf("told %q, %q, fault %d", ab, ef, r.Fault())
	}
	if string(again.Sized(2)) != "ab" || string(again.Sized(2)) != "cd" || !bytes.Equal(b, kept) {
		t.Error("what one reader told is changed in another, or in the bytes")
	}
}

// 3.2: two readers of the same bytes, and a reader behind a fault of another,
// each go their own way.
func TestReadersApart(t *testing.T) {
	b := []byte{1, 2, 3}
	one, other := enc.Read(b), enc.Read(b)
	one.Count(0)
	if other.Byte() != 1 || other.Byte() != 2 || other.Left() != 1 || other.Fault() != api.OK {
		t.Errorf("the other reader: left %d, fault %d", other.Left(), other.Fault())
	}
	checkFault(t, "one", one, 3, api.ErrRange)
}

// model is a reader as the chapter's words have it, over numbers without a
// limit.
type model struct {
	b     []byte
	fault api.Errno
}

// number is the next number, and how many bytes it has.
func (m *model) number(width int) (*big.Int, int, api.Errno) {
	n, power := new(big.Int), big.NewInt(1)
	for i, one := range m.b {
		n.Add(n, new(big.Int).Mul(power, big.NewInt(int64(one%128))))
		power.Lsh(power, 7)
		if one < 128 {
			if !bytes.Equal(byWords(n), m.b[:i+1]) || i+1 > 10 || n.BitLen() > width {
				return nil, 0, api.ErrForm
			}
			return n, i + 1, api.OK
		}
	}
	return nil, 0, api.ErrEnd
}

func (m *model) count(most int) (int, int, api.Errno) {
	if most < 0 {
		return 0, 0, api.ErrRange
	}
	n, size, e := m.number(63)
	if e != api.OK {
		return 0, 0, e
	}
	if n.Cmp(big.NewInt(int64(most))) > 0 {
		return 0, 0, api.ErrRange
	}
	return int(n.Int64()), size, api.OK
}

// look is what a call tells, how many bytes it takes, and its fault.
func (m *model) look(c call) (taken, int, api.Errno) {
	switch c.name {
	case "Byte":
		if len(m.b) == 0 {
			return taken{}, 0, api.ErrEnd
		}
		return taken{n: int(m.b[0])}, 1, api.OK
	case "Count":
		n, size, e := m.count(c.most)
		return taken{n: n}, size, e
	case "Whole":
		n, size, e := m.number(64)
		if e != api.OK {
			return taken{}, 0, e
		}
		half := new(big.Int).Rsh(n, 1)
		if n.Bit(0) == 1 {
			half.Neg(half).Sub(half, big.NewInt(1))
		}
		return taken{n: int(half.Int64())}, size, api.OK
	}
	n, size, e := m.count(c.most)
	if e == api.OK && n > len(m.b)-size {
		e = api.ErrEnd
	}
	if e != api.OK {
		return taken{}, 0, e
	}
	return taken{data: string(m.b[size : size+n])}, size + n, api.OK
}

func (m *model) take(c call) taken {
	if m.fault != api.OK {
		return taken{}
	}
	got, size, e := m.look(c)
	m.fault = e
	m.b = m.b[size:]
	return got
}

// anyBytes are bytes of which many are whole numbers with faults here and
// there.
func anyBytes(row *rand.Rand) []byte {
	var b []byte
	for range row.Intn(6) {
		switch row.Intn(5) {
		case 0:
			b = append(b, byte(row.Intn(256)))
		case 1:
			b = append(b, byte(row.Intn(4)))
		case 2:
			b = append(b, bytes.Repeat([]byte{byte(128 + row.Intn(2)*127)}, row.Intn(13))...)
		case 3:
			b = enc.Whole(b, int(row.Uint64())>>row.Intn(64))
		case 4:
			b = enc.Sized(b, mixed(row.Intn(5)))
		}
	}
	return b
}

func anyCall(row *rand.Rand) call {
	c := calls()[row.Intn(4)]
	switch row.Intn(4) {
	case 0:
		c.most = row.Intn(6) - 1
	case 1:
		c.most = int(row.Uint64()) >> row.Intn(64)
	}
	return c
}

// 3.2, 3.3: any calls on any bytes tell what the words have them tell.
func TestAnyCallsOnAnyBytes(t *testing.T) {
	row := rand.New(rand.NewSource(32))
	for range 100_000 {
		b := anyBytes(row)
		r, m := enc.Read(b), &model{b: b}
		for range 1 + row.Intn(6) {
			c := anyCall(row)
			got, want := c.on(r), m.take(c)
			if got != want || r.Fault() != m.fault || r.Left() != len(m.b) {
				t.Fatalf("%s(%d) of %v: %v, fault %d, left %d, asked for %v, %d, %d",
					c.name, c.most, b, got, r.Fault(), r.Left(), want, m.fault, len(m.b))
			}
		}
		if m.fault == api.OK && len(m.b) > 0 {
			m.fault = api.ErrForm
		}
		if e := r.End(); e != m.fault || r.Left() != len(m.b) {
			t.Fatalf("at the end of %v: %d, left %d, asked for %d", b, e, r.Left(), m.fault)
		}
	}
}
