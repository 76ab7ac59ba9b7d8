package lex

import (
	"strings"

	"hibernacle/api"
	"hibernacle/fix"
)

const (
	blanks = "\t\n\f\r "
	// parting are the bytes that may stand right behind a word.
	parting = blanks + `;()"`
	digits  = "0123456789"
)

// marks are the marks' texts, each at its kind.
var marks = [...]string{
	Open:    "(",
	Close:   ")",
	Vector:  "#(",
	Bytes:   "#u8(",
	Quote:   "'",
	Quasi:   "`",
	Unquote: ",",
	Splice:  ",@",
	Skip:    "#;",
}

// scanner goes over a text.
type scanner struct {
	text string
	at   int
	list []Token
	// tight tells that what ends at the place wants to be parted from what
	// stands behind it.
	tight bool
}

// apart tells whether what stands at the place may stand there.
func (c *scanner) apart() bool {
	return !c.tight || strings.IndexByte(parting, c.text[c.at]) >= 0
}

// next takes what stands at the place, or tells its first fault.
func (c *scanner) next() (int, api.Errno) {
	rest := c.text[c.at:]
	switch {
	case strings.IndexByte(blanks, rest[0]) >= 0:
		return c.pass(1)
	case rest[0] == ';':
		return c.pass(lineSize(rest))
	case strings.HasPrefix(rest, "#|"):
		return c.pass(remarkSize(rest))
	case rest[0] == '"':
		return c.quoted()
	}
	if c.mark() || c.label() {
		return 0, api.OK
	}
	return c.word()
}

// take takes a token of so many bytes.
func (c *scanner) take(t Token, size int, tight bool) (int, api.Errno) {
	t.At = c.at
	c.list = append(c.list, t)
	c.at += size
	c.tight = tight
	return 0, api.OK
}

// pass goes past so many bytes that are no token; past none, if what they begin
// isn't ended.
func (c *scanner) pass(size int) (int, api.Errno) {
	if size == 0 {
		return c.at, api.ErrEnd
	}
	if high := highByte(c.text[c.at : c.at+size]); high >= 0 {
		return c.at + high, api.ErrForm
	}
	c.at += size
	c.tight = false
	return 0, api.OK
}

// quoted takes a string. It is never too long: a text isn't longer itself.
func (c *scanner) quoted() (int, api.Errno) {
	size := quotedSize(c.text[c.at:])
	if size == 0 {
		return c.at, api.ErrEnd
	}
	said, wrong := unquote(c.text[c.at+1 : c.at+size-1])
	if wrong >= 0 {
		return c.at + 1 + wrong, api.ErrForm
	}
	return c.take(Token{Kind: String, S: said}, size, true)
}

// mark takes a mark, if there is one.
func (c *scanner) mark() bool {
	// From the last kind on, because `,` is the beginning of `,@`.
	for kind := len(marks) - 1; kind >= 0; kind-- {
		if strings.HasPrefix(c.text[c.at:], marks[kind]) {
			c.take(Token{Kind: Kind(kind)}, len(marks[kind]), false)
			return true
		}
	}
	return false
}

// label takes a label, if there is one.
func (c *scanner) label() bool {
	rest, ok := strings.CutPrefix(c.text[c.at:], "#")
	number := rest[:len(rest)-len(strings.TrimLeft(rest, digits))]
	size := len(number)
	if !ok || size < 1 || size > 3 || size == len(rest) {
		return false
	}
	n, _ := fix.Parse(number, 10)
	switch rest[size] {
	case '=':
		c.take(Token{Kind: Label, N: n}, size+2, false)
	case '#':
		c.take(Token{Kind: Again, N: n}, size+2, true)
	default:
		return false
	}
	return true
}

// word takes a word.
func (c *scanner) word() (int, api.Errno) {
	rest := c.text[c.at:]
	word := rest[:wordSize(rest)]
	t, e := wordOf(word)
	if e != api.OK {
		return c.at, e
	}
	if high := highByte(word); high >= 0 {
		return c.at + high, api.ErrForm
	}
	return c.take(t, len(word), true)
}

// lineSize is how many bytes there are ahead of a line feed.
func lineSize(s string) int {
	line, _, _ := strings.Cut(s, "\n")
	return len(line)
}

// remarkSize is how many bytes the remark has that a text begins with; 0, if it
// isn't ended.
func remarkSize(s string) int {
	open := 0
	for i := 0; i+1 < len(s); i++ {
		switch s[i : i+2] {
		case "#|":
			open++
			i++
		case "|#":
			open--
			i++
		}
		if open == 0 {
			return i + 1
		}
	}
	return 0
}

// highByte is the place of the first byte that may stand in no text, or -1.
func highByte(s string) int {
	for i := range len(s) {
		if s[i] >= endOfText {
			return i
		}
	}
	return -1
}
