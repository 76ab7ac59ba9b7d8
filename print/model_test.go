package print_test

import (
	"fmt"
	"math/rand"
	"regexp"
	"slices"
	"strconv"
	"strings"
	"testing"

	"hibernacle/api"
	"hibernacle/print"
)

// model tells what a value is written as, by what is at memory's places. It goes
// in rounds over what is come to, and numbers labels when all is written.
type model struct {
	at     map[int]api.Obj
	names  []string
	shown  bool
	times  map[int]int
	begun  map[int]bool
	failed map[int]bool // those that can't be fetched
}

// datum is the object that a value refers to, if that may be marked.
func (m *model) datum(v api.Val) (api.Obj, bool) {
	o, there := m.at[v.N]
	return o, v.K == api.Ref && there && !m.failed[v.N] && o.Kind <= api.Bytes
}

// count counts how often what is written is come to.
func (m *model) count(v api.Val) {
	m.times, m.begun = map[int]int{}, map[int]bool{}
	for round := []api.Val{v}; len(round) > 0; {
		var next []api.Val
		for _, x := range round {
			o, is := m.datum(x)
			if !is {
				continue
			}
			if m.times[x.N]++; m.times[x.N] == 1 {
				next = append(next, o.Vals...)
			}
		}
		round = next
	}
}

// labels are those of a text that has places in their stead, between two bytes
// that nothing else has.
var labels = regexp.MustCompile("\x02([0-9]+)\x03")

// tell is what a value is written as, and what is marked.
func (m *model) tell(v api.Val) (string, []api.Val) {
	m.count(v)
	var marked []api.Val
	text := labels.ReplaceAllStringFunc(m.text(v), func(s string) string {
		place, _ := strconv.Atoi(s[1 : len(s)-1])
		if !slices.Contains(marked, ref(place)) {
			marked = append(marked, ref(place))
		}
		return "#" + strconv.Itoa(slices.Index(marked, ref(place)))
	})
	return text, marked
}

// text is a value's text, with places for labels.
func (m *model) text(v api.Val) string {
	label := fmt.Sprintf("\x02%d\x03", v.N)
	switch _, is := m.datum(v); {
	case is && m.begun[v.N]:
		return label + "#"
	case is && m.times[v.N] > 1:
		m.begun[v.N] = true
		return label + "=" + m.bare(v)
	}
	return m.bare(v)
}

// bare is a value's text without a label.
func (m *model) bare(v api.Val) string {
	if v.K != api.Ref {
		return m.word(v)
	}
	o, there := m.at[v.N]
	if !there || m.failed[v.N] {
		return "#<gone>"
	}
	switch o.Kind {
	case api.Pair:
		return m.pair(o)
	case api.Vector:
		var list []string
		for _, x := range o.Vals {
			list = append(list, m.text(x))
		}
		return "#(" + strings.Join(list, " ") + ")"
	case api.Bytes:
		return "#u8(" + strings.Trim(fmt.Sprint(o.Bytes), "[]") + ")"
	case api.String:
		if m.shown {
			return string(o.Bytes)
		}
		return `"` + strings.NewReplacer(`"`, `\"`, `\`, `\\`, "\n", `\n`, "\x01", `\x01;`).Replace(string(o.Bytes)) + `"`
	}
	return "#<" + strings.Fields("pair vector string bytes box closure frame code error values kont continuation port alias")[o.Kind] + ">"
}

// pair is a pair's text: its chain is gathered first.
func (m *model) pair(o api.Obj) string {
	items, end := []api.Val{o.Vals[0]}, o.Vals[1]
	for {
		next, is := m.datum(end)
		if !is || next.Kind != api.Pair || m.times[end.N] > 1 {
			break
		}
		items, end = append(items, next.Vals[0]), next.Vals[1]
	}
	if len(items) == 2 && end.K == api.Nil && items[0].K == api.Sym {
		marks := map[string]string{"quote": "'", "quasiquote": "`", "unquote": ",", "unquote-splicing": ",@"}
		mark, is := marks[m.word(items[0])]
		item := ""
		if is {
			item = m.text(items[1])
		}
		if mark == "," && items[1].K == api.Sym && item[0] == '@' {
			mark = ", "
		}
		if is {
			return mark + item
		}
	}
	var list []string
	for _, x := range items {
		list = append(list, m.text(x))
	}
	if end.K != api.Nil {
		list = append(list, ".", m.text(end))
	}
	return "(" + strings.Join(list, " ") + ")"
}

// word is the text of a value that is no object.
func (m *model) word(v api.Val) string {
	switch v.K {
	case api.Nil:
		return "()"
	case api.Bool:
		return []string{"#f", "#t"}[v.N]
	case api.Char:
		if m.shown {
			return string(rune(v.N))
		}
		return `#\` + map[int]string{'a': "a", '(': "(", ' ': "space", 1: "x01"}[v.N]
	case api.Sym:
		if v.N < 0 || v.N >= len(m.names) {
			return "#<symbol>"
		}
		return m.names[v.N]
	case api.Int:
		return strconv.Itoa(v.N)
	case api.Prim:
		return fmt.Sprintf("#<procedure %d>", v.N)
	case api.Unspec:
		return "#<unspecified>"
	}
	return "#<eof>"
}

// copied is a model of a world.
func copied(w *world) *model {
	m := &model{at: map[int]api.Obj{}, failed: map[int]bool{}}
	for v := range w.h.All() {
		m.at[v.N], _ = w.h.Obj(v)
	}
	for i := range w.x.Len() {
		m.names = append(m.names, w.x.Name(i))
	}
	return m
}

// holds asks that each value is written as the model tells.
func (w *world) holds(m *model, vals []api.Val) {
	w.t.Helper()
	var texts []string
	for _, v := range vals {
		m.shown = true
		shown, _ := m.tell(v)
		m.shown = false
		written, marked := m.tell(v)
		texts = append(texts, written)
		w.asks(v, written, shown, marked...)
	}
	if got := print.All(w.h, w.x, vals); got != strings.Join(texts, " ") {
		w.t.Fatalf("All: %s, not %s", short(got), short(strings.Join(texts, " ")))
	}
}

// named are symbols that a text may have.
func (w *world) named() []api.Val {
	var list []api.Val
	for _, name := range []string{"quote", "quasiquote", "unquote", "unquote-splicing", "a", "...", "@", "@b", "c%1", "+"} {
		list = append(list, w.sym(name))
	}
	return list
}

// readable are values that can be read, and are no objects.
func (w *world) readable() []api.Val {
	return append(w.named(), null, null, null, null, null, null, number(1), number(-20), yes, no, char('a'), char('('), char(' '), char(1))
}

// object is any object, of the kinds that can be read, or of any; its values are
// laid in later.
func (w *world) object(from *rand.Rand, anyKind bool) api.Val {
	w.t.Helper()
	text := "ab\"\\\n\x01 #@"
	text = text[from.Intn(len(text)):]
	vals := make([]api.Val, from.Intn(6))
	switch k := from.Intn(16); {
	case k < 11 || k == 15 && !anyKind:
		return w.pair(null, null)
	case k < 13:
		return w.vector(vals...)
	case k < 14:
		return w.text(text[:min(from.Intn(4), len(text))])
	case k < 15:
		return w.bytes([]byte(text[:min(from.Intn(4), len(text))])...)
	}
	kind := api.Box + api.ObjKind(from.Intn(10))
	count := 2
	if kind == api.Box {
		count = 1
	}
	return w.add(api.Obj{Kind: kind, Vals: make([]api.Val, count)})
}

// link lays values into an object, mostly Refs to some objects.
func (w *world) link(from *rand.Rand, v api.Val, others, plain []api.Val) {
	w.t.Helper()
	o, e := w.h.Obj(v)
	if e != api.OK {
		w.t.Fatal(e)
	}
	for i := range o.Vals {
		x := plain[from.Intn(len(plain))]
		if from.Intn(9) < 5+3*i {
			x = others[from.Intn(len(others))]
		}
		w.set(v, i, x)
	}
}

// quote has some of the pairs begin lists of a mark's symbol and one item, which
// would come about but seldom.
func (w *world) quote(from *rand.Rand, all []api.Val) {
	w.t.Helper()
	for _, v := range all {
		next := all[from.Intn(len(all))]
		k, _ := w.h.Kind(v)
		other, _ := w.h.Kind(next)
		if k == api.Pair && other == api.Pair && v != next && from.Intn(2) == 0 {
			w.set(v, 0, w.named()[from.Intn(4)])
			w.set(v, 1, next)
			w.set(next, 1, null)
		}
	}
}

// some is a world with any things, and its objects.
func some(t *testing.T, from *rand.Rand, count int, anyKind bool) (*world, []api.Val) {
	t.Helper()
	w := newWorld(t)
	plain := w.readable()
	if anyKind {
		plain = append(plain, unspec, eof, api.Val{K: api.Prim, N: 12}, api.Val{K: api.Sym, N: 99}, api.Val{K: api.Sym, N: -1}, api.Val{K: api.Nil, N: 7})
	}
	var all []api.Val
	for range count {
		all = append(all, w.object(from, anyKind))
	}
	// Few are shared, if each one refers to such as stand behind it alone.
	shared := from.Intn(3) > 0
	for i, v := range all {
		others := all
		if !shared && i+1 < count {
			others = all[i+1:]
		}
		w.link(from, v, others, plain)
	}
	if shared {
		w.quote(from, all)
	}
	return w, all
}

// 18.1: any things, held against the model.
func TestAnyThings(t *testing.T) {
	wanted := []string{"#1=", "#2#", "'", ",@", ` \. #`, "#<gone>", "#<box>", "=[',`]", "[',`@]#[0-9]+=", "[',`@]#[0-9]+#"}
	times := make([]int, len(wanted))
	for seed := range 800 {
		from := rand.New(rand.NewSource(int64(seed)))
		w, all := some(t, from, 1+from.Intn(25), true)
		for range from.Intn(2) {
			w.h.Drop(all[from.Intn(len(all))])
		}
		vals := append(all, w.readable()[from.Intn(10)], unspec)
		w.holds(copied(w), vals)
		text := print.All(w.h, w.x, vals)
		for i, what := range wanted {
			if is, _ := regexp.MatchString(what, text); is {
				times[i]++
			}
		}
	}
	if slices.Min(times) < 20 {
		t.Fatalf("of %q some are seldom written: %d", wanted, times)
	}
}

// 18.1: any things, some of which can't be fetched, held against the model.
func TestAnyAway(t *testing.T) {
	for seed := range 200 {
		from := rand.New(rand.NewSource(int64(seed)))
		w, all := some(t, from, 1+from.Intn(20), true)
		m := copied(w)
		for _, v := range all {
			if e := w.h.Keep(v, v.N+1); e != api.OK || !w.h.Send(v) {
				t.Fatalf("Keep(%v): %d; it isn't away", v, e)
			}
			m.failed[v.N] = from.Intn(8) == 0
		}
		w.h.Fetch(func(n int) (api.Obj, api.Errno) {
			if m.failed[n-1] {
				return api.Obj{}, api.ErrDown
			}
			return m.at[n-1], api.OK
		})
		for _, v := range all {
			m.shown = true
			shown, _ := m.tell(v)
			m.shown = false
			written, marked := m.tell(v)
			w.tells(v, written, shown, marked)
			w.h.Send(all[from.Intn(len(all))])
		}
	}
}

// 18.1: all ways in which three pairs may lie, held against the model, and read
// again.
func TestAllPairs(t *testing.T) {
	w := newWorld(t)
	pairs := []api.Val{w.pair(null, null), w.pair(null, null), w.pair(null, null)}
	vals := append([]api.Val{null, w.sym("quote")}, pairs...)
	ways := len(vals) * len(vals)
	for way := range ways * ways * ways {
		for _, p := range pairs {
			w.set(p, 0, vals[way%5])
			w.set(p, 1, vals[way/5%5])
			way /= ways
		}
		written, marked := copied(w).tell(pairs[0])
		w.tells(pairs[0], written, written, marked)
		w.again(pairs[0])
	}
}
