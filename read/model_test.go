package read_test

import (
	"fmt"
	"maps"
	"math/rand"
	"slices"
	"strings"
	"testing"

	"hibernacle/api"
	"hibernacle/lex"
	"hibernacle/read"
)

// thing is a datum of the model. It is there as soon as it begins, and becomes
// what it is when it ends.
type thing struct {
	word       string // what it is sketched as; of an object what stands ahead of its values
	vals       []*thing
	end        string // what stands behind an object's values
	isAnObject bool
}

// open is a part of a text that hasn't ended yet.
type open struct {
	kind   lex.Kind // Dot: it is a list, and the dot was there
	thing  *thing
	items  []*thing
	last   *thing         // what stood behind the dot
	number int            // a label's
	labels map[int]*thing // those that are known outside, of what is skipped
}

// model goes over tokens one by one: what hasn't ended yet lies on a stack.
type model struct {
	stack  []*open
	labels map[int]*thing // nil: it hasn't begun yet
	names  []string
}

func (m *model) top() *open { return m.stack[len(m.stack)-1] }

// scan is what the model tells of a text: its data, or a fault.
func scan(s string) (data []*thing, names []string, place int, e api.Errno) {
	tokens, place, e := lex.Scan(s)
	if e != api.OK {
		return nil, nil, place, e
	}
	m := &model{stack: []*open{{kind: lex.Symbol}}, labels: map[int]*thing{}}
	for _, t := range tokens {
		if e := m.flaw(t); e != api.OK {
			return nil, nil, t.At, e
		}
		m.next(t)
	}
	if len(m.stack) > 1 {
		return nil, nil, len(s), api.ErrEnd
	}
	return m.stack[0].items, m.names, len(s), api.OK
}

func isRow(k lex.Kind) bool  { return k == lex.Open || k == lex.Vector || k == lex.Bytes }
func isMark(k lex.Kind) bool { return lex.Quote <= k && k <= lex.Splice }

// flaw is the first fault, by the order in which 17.1 names them, of all that a
// token has.
func (m *model) flaw(t lex.Token) api.Errno {
	p, known := m.top(), false
	if t.Kind == lex.Again || t.Kind == lex.Label {
		_, known = m.labels[t.N]
	}
	deep := 0
	for _, o := range m.stack {
		if isRow(o.kind) || isMark(o.kind) || o.kind == lex.Label || o.kind == lex.Dot {
			deep++
		}
	}
	var form bool
	switch t.Kind {
	case lex.Skip:
	case lex.Close:
		form = !isRow(p.kind) && (p.kind != lex.Dot || p.last == nil)
	case lex.Dot:
		form = p.kind != lex.Open || len(p.items) == 0
	default:
		form = p.kind == lex.Dot && p.last != nil || p.kind == lex.Bytes && (t.Kind != lex.Int || t.N < 0 || t.N > 255) || t.Kind == lex.Again && known && m.labels[t.N] == nil
	}
	isData := t.Kind != lex.Skip && t.Kind != lex.Close && t.Kind != lex.Dot
	switch {
	case form:
		return api.ErrForm
	case t.Kind == lex.Again && !known:
		return api.ErrNone
	case t.Kind == lex.Label && known:
		return api.ErrTwice
	case isData && p.kind == lex.Vector && len(p.items) == 256,
		(isRow(t.Kind) || isMark(t.Kind) || t.Kind == lex.Label) && deep == 64:
		return api.ErrLong
	}
	return api.OK
}

// next takes a token without a fault.
func (m *model) next(t lex.Token) {
	x := &thing{}
	switch {
	case t.Kind == lex.Skip:
		m.stack = append(m.stack, &open{kind: lex.Skip, labels: m.labels})
		m.labels = maps.Clone(m.labels)
	case t.Kind == lex.Label:
		m.labels[t.N] = nil
		m.stack = append(m.stack, &open{kind: lex.Label, number: t.N})
	case t.Kind == lex.Dot:
		m.top().kind = lex.Dot
	case isRow(t.Kind):
		m.begin(x)
		m.stack = append(m.stack, &open{kind: t.Kind, thing: x})
	case isMark(t.Kind):
		m.begin(x)
		name := []string{"quote", "quasiquote", "unquote", "unquote-splicing"}[t.Kind-lex.Quote]
		m.name(name)
		m.stack = append(m.stack, &open{kind: t.Kind, thing: x, items: []*thing{{word: name}}})
	case t.Kind == lex.Close:
		p := m.top()
		m.stack = m.stack[:len(m.stack)-1]
		m.ends(p)
	case t.Kind == lex.Again:
		m.begin(m.labels[t.N])
		m.deliver(m.labels[t.N])
	default:
		m.begin(x)
		m.word(x, t)
		m.deliver(x)
	}
}

// begin tells the labels right ahead of a datum what they stand for.
func (m *model) begin(x *thing) {
	for _, o := range slices.Backward(m.stack) {
		if o.kind != lex.Label {
			return
		}
		m.labels[o.number] = x
	}
}

// name keeps a symbol's name, if it isn't skipped.
func (m *model) name(name string) {
	if !slices.ContainsFunc(m.stack, func(o *open) bool { return o.kind == lex.Skip }) {
		m.names = append(m.names, name)
	}
}

// word has a thing be a word.
func (m *model) word(x *thing, t lex.Token) {
	switch t.Kind {
	case lex.Int:
		x.word = fmt.Sprint(t.N)
	case lex.Bool:
		x.word = []string{"#f", "#t"}[t.N]
	case lex.Char:
		x.word = fmt.Sprintf("#%d", t.N)
	case lex.String:
		x.word, x.isAnObject = fmt.Sprintf("%q", t.S), true
	case lex.Symbol:
		x.word = t.S
		m.name(t.S)
	}
}

// ends has a row's thing be what it is.
func (m *model) ends(p *open) {
	switch p.kind {
	case lex.Vector:
		*p.thing = thing{"[", p.items, "]", true}
	case lex.Bytes:
		var list []string
		for _, x := range p.items {
			list = append(list, x.word)
		}
		*p.thing = thing{"<" + strings.Join(list, " ") + ">", nil, "", true}
	default:
		rest := p.last
		if rest == nil {
			rest = &thing{word: "()"}
		}
		for i, x := range slices.Backward(p.items) {
			next := thing{"(", []*thing{x, rest}, ")", true}
			if i == 0 {
				*p.thing = next
			} else {
				rest = &next
			}
		}
		if len(p.items) == 0 {
			*p.thing = *rest
		}
	}
	m.deliver(p.thing)
}

// deliver hands a datum on to what it lies in.
func (m *model) deliver(x *thing) {
	p := m.top()
	switch {
	case p.kind == lex.Dot:
		p.last = x
		return
	case p.kind == lex.Skip:
		m.labels = p.labels
	case isMark(p.kind):
		p.items = append(p.items, x)
		p.kind = lex.Open
		m.stack = m.stack[:len(m.stack)-1]
		m.ends(p)
		return
	case p.kind == lex.Label:
		m.stack = m.stack[:len(m.stack)-1]
		m.deliver(x)
		return
	default:
		p.items = append(p.items, x)
		return
	}
	m.stack = m.stack[:len(m.stack)-1]
}

// sketch is the model's data, written as those of a memory.
func sketch(data []*thing) (string, int) {
	var b strings.Builder
	seen := map[*thing]int{}
	var row func(list []*thing)
	row = func(list []*thing) {
		for i, x := range list {
			if i > 0 {
				b.WriteByte(' ')
			}
			if n, was := seen[x]; was {
				fmt.Fprint(&b, "@", n)
				continue
			}
			if x.isAnObject {
				fmt.Fprint(&b, len(seen))
				seen[x] = len(seen)
			}
			b.WriteString(x.word)
			row(x.vals)
			b.WriteString(x.end)
		}
	}
	row(data)
	return b.String(), len(seen)
}

// holds asks that All, One and Count tell of a text what the model tells.
func holds(t *testing.T, s string) {
	t.Helper()
	data, used, place, e := scan(s)
	if e != api.OK {
		fails(t, s, place, e)
		return
	}
	want, objects := sketch(data)
	if n, _, _ := read.Count(s); n != objects {
		t.Fatalf("Count(%q): %d; the model tells %d", s, n, objects)
	}
	reads(t, s, len(data), want)
	w := newWorld(t, objects)
	w.all(s)
	for _, name := range w.xNames() {
		used = append([]string{name}, used...)
	}
	var more []string
	for _, name := range used {
		if !slices.Contains(more, name) {
			more = append(more, name)
		}
	}
	if got := names(w.x); !slices.Equal(got, more) {
		t.Fatalf("All(%q): the names are %q; the model tells %q", s, got, more)
	}
}

// xNames are the names that a new world's table has.
func (w *world) xNames() []string { return []string{"was-there"} }

// some is a text of tokens, mostly without a fault; labels are as given, and
// others.
func some(from *rand.Rand, count int, labels ...string) string {
	list := []string{
		"(", "(", "(", ")", ")", ")", ")", ")", "#(", "#u8(", "'", "`", ",", ",@", "#;", "#;", ".", ".", ".",
		"a", "b", "quote", "was-there", "1", "2", "255", "256", "-1", "#t", "#f", `#\a`, `"a"`, `""`,
	}
	for _, l := range labels {
		list = append(list, l, l, l[:len(l)-1]+"#", l[:len(l)-1]+"#", l[:len(l)-1]+"#")
	}
	s, plain := "", from.Intn(4) > 0
	for i := 0; i < count; {
		more := s + " " + list[from.Intn(len(list))]
		_, _, _, e := scan(more)
		// Most texts of many tokens would have a fault near their beginning.
		if plain && e != api.OK && e != api.ErrEnd && from.Intn(100) > 0 {
			continue
		}
		s, i = more, i+1
	}
	// What is open is closed, one by one, as the model asks for it.
	for range count {
		if _, _, _, e := scan(s); !plain || e != api.ErrEnd {
			break
		}
		for _, more := range []string{" )", " 7"} {
			if _, _, _, e := scan(s + more); e == api.OK || e == api.ErrEnd {
				s += more
				break
			}
		}
	}
	return s
}

// 17.1, 17.2: all texts of few tokens, held against the model.
func TestShortTexts(t *testing.T) {
	list := []string{"(", ")", "#(", "#u8(", "'", ".", "#;", "#0=", "#0#", "#1=", "1"}
	texts := []string{""}
	for range 6 {
		var longer []string
		for _, s := range texts {
			holds(t, s)
			// What follows a fault that isn't one of the end alone changes
			// nothing, as it stands behind it.
			if _, _, _, e := scan(s); e != api.OK && e != api.ErrEnd {
				continue
			}
			for _, token := range list {
				longer = append(longer, s+" "+token)
			}
		}
		texts = longer
	}
}

// 17.1, 17.2: any texts of tokens, held against the model.
func TestAnyTexts(t *testing.T) {
	from, fine := rand.New(rand.NewSource(1)), 0
	for range 3000 {
		s := some(from, from.Intn(25), "#0=", "#1=", "#2=")
		holds(t, s)
		if _, _, _, e := scan(s); e == api.OK {
			fine++
		}
	}
	for range 20 {
		holds(t, some(from, from.Intn(200), "#0=", "#1=", "#2=", "#3=", "#4="))
	}
	if fine < 500 {
		t.Fatal("too few texts without a fault:", fine)
	}
}

// 17.1, 17.2: any texts that lie deep, held against the model.
func TestAnyDeepTexts(t *testing.T) {
	from := rand.New(rand.NewSource(2))
	for range 300 {
		var s strings.Builder
		number := 0
		for range 55 + from.Intn(15) {
			switch k := from.Intn(12); k {
			case 0:
				number++
				fmt.Fprintf(&s, "#%d=", number)
			case 1:
				fmt.Fprintf(&s, "(#%d# ", from.Intn(number+1))
			default:
				s.WriteString([]string{"(", "#(", "'", "`", ",", ",@", "(a ", "(a . ", "#(#;a ", "#;"}[k-2])
			}
		}
		holds(t, s.String())
		text := s.String() + "b"
		for range 100 {
			if _, _, _, e := scan(text); e != api.ErrEnd {
				break
			}
			if _, _, _, e := scan(text + " )"); e == api.OK || e == api.ErrEnd {
				text += " )"
			} else {
				text += " 7"
			}
		}
		holds(t, text)
	}
}

// P1: any bytes, and any tokens without sense: no call panics, and each ends.
func TestAnyBytes(t *testing.T) {
	from := rand.New(rand.NewSource(3))
	for range 3000 {
		b := make([]byte, from.Intn(30))
		for i := range b {
			b[i] = "()#;'`,@.=u80a \"\\|\n\xff"[from.Intn(20)]
		}
		holds(t, string(b))
	}
	for _, s := range []string{"(", "#(", "'", "#;", "#;(", "#0=", "(#;", "#u8(", ")", "#;#0=", "'#;"} {
		holds(t, strings.Repeat(s, 4096/len(s)))
	}
}
