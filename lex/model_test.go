package lex_test

import (
	"math/big"
	"math/rand"
	"regexp"
	"slices"
	"strings"
	"testing"

	"hibernacle/api"
	"hibernacle/lex"
)

// The chapter's words as patterns. A byte from 128 up is 0xff in what they are
// held against.
var (
	blank   = regexp.MustCompile(`^[\t\n\f\r ]`)
	line    = regexp.MustCompile(`^;[^\n]*`)
	either  = regexp.MustCompile(`#\||\|#`)
	said    = regexp.MustCompile(`^"(?:[^"\\]|(?s:\\.))*"`)
	escape  = regexp.MustCompile(`(?s)\\(?:["\\ntrab]|x[0-9a-fA-F]+;|.)`)
	marking = regexp.MustCompile("^(?:\\(|\\)|#\\(|#u8\\(|'|`|,@|,|#;)")
	labels  = regexp.MustCompile(`^#[0-9]{1,3}[=#]`)
	words   = regexp.MustCompile(`^(?s:#\\.?)?[A-Za-z0-9!$%&*/:<=>?^_~+\-.@#]*`)
	numbers = regexp.MustCompile(`^(?:(?:#d)?[+-]?[0-9]+|#b[+-]?[01]+|#o[+-]?[0-7]+|#x[+-]?[0-9a-fA-F]+)$`)
	hex     = regexp.MustCompile(`^#\\x[0-9a-fA-F]+$`)
	onebyte = regexp.MustCompile(`^(?s:#\\.)$`)
	symbols = regexp.MustCompile(`^(?:[^0-9#+\-.][^#]*|[+\-](?:[^0-9#][^#]*)?|\.[^#]+)$`)
	apart   = regexp.MustCompile(`^[\t\n\f\r ;()"]`)
)

// flaw is a fault of a text, by its place and its rank in 16.1.
type flaw struct {
	place, rank int
	e           api.Errno
}

// model tells a text's tokens and all its faults.
type model struct {
	list  []lex.Token
	flaws []flaw
}

func (m *model) flaw(place int, e api.Errno) {
	ranks := []api.Errno{api.ErrEnd, api.ErrLong, api.ErrRange, api.ErrForm}
	m.flaws = append(m.flaws, flaw{place, slices.Index(ranks, e), e})
}

// scan is Scan as the chapter's words tell it: all faults are gathered, and the
// least one counts.
func scan(s string) ([]lex.Token, int, api.Errno) {
	if len(s) > 4096 {
		return nil, 0, api.ErrLong
	}
	m := &model{}
	low := []byte(s)
	for i, c := range low {
		if c >= 128 {
			low[i] = 0xff
			m.flaw(i, api.ErrForm)
		}
	}
	m.all(string(low))
	if len(m.flaws) == 0 {
		return m.list, len(s), api.OK
	}
	first := slices.MinFunc(m.flaws, func(a, b flaw) int {
		if a.place != b.place {
			return a.place - b.place
		}
		return a.rank - b.rank
	})
	return nil, first.place, first.e
}

// all goes over a text.
func (m *model) all(s string) {
	behind := false
	for at := 0; at < len(s); {
		rest := s[at:]
		if behind && !apart.MatchString(rest) {
			m.flaw(at, api.ErrForm)
		}
		size := 0
		size, behind = m.one(rest, at)
		at += size
	}
}

// one takes what a text begins with: how many bytes it has, and whether it asks
// for something behind it.
func (m *model) one(rest string, at int) (int, bool) {
	token := lex.Token{At: at}
	tight := true
	var size int
	switch {
	case blank.MatchString(rest), line.MatchString(rest):
		return max(len(line.FindString(rest)), 1), false
	case strings.HasPrefix(rest, "#|"):
		return m.remark(rest, at), false
	case rest[0] == '"' && !said.MatchString(rest):
		m.flaw(at, api.ErrEnd)
		return len(rest), false
	case rest[0] == '"':
		size = len(said.FindString(rest))
		token.Kind, token.S = lex.String, m.unquote(rest[1:size-1], at+1)
	case marking.MatchString(rest):
		text := marking.FindString(rest)
		size, tight = len(text), false
		for k, s := range marks() {
			if s == text {
				token.Kind = k
			}
		}
	case labels.MatchString(rest):
		size = len(labels.FindString(rest))
		token.Kind, token.N = lex.Again, whatNumber(rest[1:size-1], 10)
		if rest[size-1] == '=' {
			token.Kind, tight = lex.Label, false
		}
	default:
		size = len(words.FindString(rest))
		token = m.word(rest[:size], token)
	}
	m.list = append(m.list, token)
	return max(size, 1), tight && size > 0
}

// remark is how many bytes a remark has.
func (m *model) remark(rest string, at int) int {
	open := 0
	for _, place := range either.FindAllStringIndex(rest, -1) {
		if rest[place[0]] == '#' {
			open++
		} else {
			open--
		}
		if open == 0 {
			return place[1]
		}
	}
	m.flaw(at, api.ErrEnd)
	return len(rest)
}

// unquote is what a string's bytes stand for.
func (m *model) unquote(s string, at int) string {
	for _, place := range escape.FindAllStringIndex(s, -1) {
		if one := s[place[0]:place[1]]; one[1] == 'x' && (len(one) == 2 || whatNumber(one[2:len(one)-1], 16) > 127) || !strings.Contains(`"\ntrabx`, one[1:2]) {
			m.flaw(at+place[0], api.ErrForm)
		}
	}
	return escape.ReplaceAllStringFunc(s, func(one string) string {
		if one[1] == 'x' && len(one) > 2 {
			return string([]byte{byte(whatNumber(one[2:len(one)-1], 16))})
		}
		return map[byte]string{'"': `"`, '\\': `\`, 'n': "\n", 't': "\t", 'r': "\r", 'a': "\a", 'b': "\b"}[one[1]]
	})
}

// word is what a word is.
func (m *model) word(s string, token lex.Token) lex.Token {
	named, isNamed := names()[strings.TrimPrefix(s, `#\`)]
	switch {
	case s == ".":
		token.Kind = lex.Dot
	case numbers.MatchString(s):
		n := wide(s)
		if !n.IsInt64() {
			m.flaw(token.At, api.ErrRange)
		}
		token.Kind, token.N = lex.Int, int(n.Int64())
	case s == "#t" || s == "#true":
		token.Kind, token.N = lex.Bool, 1
	case s == "#f" || s == "#false":
		token.Kind = lex.Bool
	case onebyte.MatchString(s):
		token.Kind, token.N = lex.Char, int(s[2])
	case isNamed && strings.HasPrefix(s, `#\`):
		token.Kind, token.N = lex.Char, named
	case hex.MatchString(s) && whatNumber(s[3:], 16) < 128:
		token.Kind, token.N = lex.Char, whatNumber(s[3:], 16)
	case symbols.MatchString(s):
		if len(s) > 32 {
			m.flaw(token.At, api.ErrLong)
		}
		token.Kind, token.S = lex.Symbol, s
	default:
		m.flaw(token.At, api.ErrForm)
	}
	return token
}

// wide is a number's word as a number without a limit.
func wide(s string) *big.Int {
	base := 10
	if s[0] == '#' {
		base = map[byte]int{'b': 2, 'o': 8, 'd': 10, 'x': 16}[s[1]]
		s = s[2:]
	}
	n, _ := new(big.Int).SetString(s, base)
	return n
}

// whatNumber is the number of digits, at most 1000.
func whatNumber(s string, base int) int {
	n, _ := new(big.Int).SetString(s, base)
	if n.Cmp(big.NewInt(1000)) > 0 {
		return 1000
	}
	return int(n.Int64())
}

// holds asks that Scan tells of a text what the model tells.
func holds(t *testing.T, s string) {
	t.Helper()
	l, place, e := lex.Scan(s)
	wantList, wantPlace, want := scan(s)
	if !slices.Equal(l, wantList) || place != wantPlace || e != want {
		t.Fatalf("Scan(%q): %v, %d, %d; the model tells %v, %d, %d", s, l, place, e, wantList, wantPlace, want)
	}
}

// 16.1: all texts of few bytes of those that matter, held against the model.
func TestShortTexts(t *testing.T) {
	list := []byte("#|\"\\;x(a1=,@ '+.\n\xff")
	texts := []string{""}
	for range 4 {
		var longer []string
		for _, s := range texts {
			holds(t, s)
			for _, c := range list {
				longer = append(longer, s+string([]byte{c}))
			}
		}
		texts = longer
	}
	for _, s := range texts[:len(texts)/2] {
		holds(t, s)
	}
}

// some is a text of pieces that matter, mostly apart.
func some(from *rand.Rand, count int) string {
	list := []string{
		"(", ")", "#(", "#u8(", "'", "`", ",", ",@", "#;", ".", "..", "...", "#1=", "#1#", "#23=", "#007#", "#1000=", "a", "b1", "+", "-", "+1", "-1", "-1a", "+.1", "1", "12", "0012",
		"9223372036854775807", "9223372036854775808", "-9223372036854775808", "-9223372036854775809", "#x1F", "#b102", "#b101", "#o17", "#d9", "#xfffffffffffffffff", "#t", "#f", "#true", "#false", "#tr",
		`#\a`, `#\x41`, `#\x80`, `#\space`, `#\nul`, `#\(`, `#\"`, `#\;`, `#\`, `#\ `, `#\x`, "#\\\xff",
		`"`, `""`, `"ab"`, `"a\n\"b"`, `"\x41;\x7f;"`, `"\x80;"`, `"\q"`, `"\x4"`, `\`, "\"\xff\"", "\"a\n\"",
		";", "; a\n", "\n", "#|", "|#", "#||#", "#| #| |# |#", "|", "#", "[", "]", "{", "\x80", "é", "\x00", "\x7f", "\t", "\r", "\f", "\v",
		strings.Repeat("a", 32), strings.Repeat("b", 33), "\\x41;", "x41;", "A", "z~", "@", "!", "%",
	}
	var b strings.Builder
	gap := from.Intn(3)
	plain := from.Intn(2) == 0
	for range count {
		s := list[from.Intn(len(list))]
		// Most texts of many pieces would have a fault near their beginning.
		if _, _, e := scan(s); plain && e != api.OK && from.Intn(40) > 0 {
			continue
		}
		b.WriteString(s)
		if gap == 0 || from.Intn(gap+2) > 1 {
			b.WriteString([]string{" ", "\n", "(", ")", ";\n"}[from.Intn(5)])
		}
	}
	return b.String()
}

// 16.1: any texts, held against the model.
func TestAnyTexts(t *testing.T) {
	from := rand.New(rand.NewSource(1))
	for range 30000 {
		holds(t, some(from, from.Intn(12)))
	}
	for range 300 {
		holds(t, some(from, from.Intn(1500)))
	}
	for range 3000 {
		b := make([]byte, from.Intn(20))
		from.Read(b)
		holds(t, string(b))
	}
}
