package expr

import (
	"strconv"
	"strings"

	"wherry/api"
	"wherry/value"
)

// The kinds of tokens.
const (
	endToken = iota
	numberToken
	textToken
	wordToken
	markToken
)

const hexDigits = "0123456789abcdef"

// marks has each one ahead of those that it begins with.
var marks = [...]string{"==", "!=", "<=", ">=", "<", ">", "(", ")", "-", "+", "*", "/", "%"}

// token is one of a text.
type token struct {
	kind int
	at   int       // where its first byte is
	s    string    // of a word or a mark: as it is written
	v    api.Value // of a number or a text: what it says
}

// next goes on to the token that follows.
func (r *reader) next() {
	r.behind += span(r.s[r.behind:], blank)
	r.now = token{kind: endToken, at: r.behind}
	rest := r.s[r.behind:]
	switch {
	case rest == "":
	case digit(rest[0]):
		r.number(rest[:span(rest, digit)])
	case letter(rest[0]):
		r.word(rest[:span(rest, inWord)])
	case rest[0] == '"':
		r.text(rest)
	default:
		r.mark(rest)
	}
}

// refuse gives up at the token that has come.
func (r *reader) refuse() {
	giveUp(api.ErrSyntax, r.now.at)
}

func (r *reader) number(row string) {
	n, err := strconv.ParseInt(row, 10, 64)
	if err != nil || row[0] == '0' && row != "0" {
		r.refuse()
	}
	r.now.kind, r.now.v = numberToken, number(n)
	r.behind += len(row)
}

func (r *reader) word(row string) {
	if !value.Named(row) && !reserved(row) {
		r.refuse()
	}
	r.now.kind, r.now.s = wordToken, row
	r.behind += len(row)
}

// reserved: is it a word of the grammar, which is no name?
func reserved(word string) bool {
	switch word {
	case "and", "or", "not", "true", "false", "len":
		return true
	}
	return false
}

// text needn't count to MaxText: what it is read of has fewer bytes.
func (r *reader) text(rest string) {
	var said strings.Builder
	i := 1
	for c, n := readByte(rest[i:]); n > 0; c, n = readByte(rest[i:]) {
		said.WriteByte(c)
		i += n
	}
	if i == len(rest) || rest[i] != '"' {
		r.refuse()
	}
	r.now.kind, r.now.v = textToken, text(said.String())
	r.behind += i + 1
}

// readByte is the byte of a text that s begins with, and how many bytes it is
// written with; 0: s begins with none.
func readByte(s string) (byte, int) {
	switch {
	case strings.HasPrefix(s, `\"`), strings.HasPrefix(s, `\\`):
		return s[1], 2
	case strings.HasPrefix(s, `\x`) && len(s) >= 4:
		high, low := strings.IndexByte(hexDigits, s[2]), strings.IndexByte(hexDigits, s[3])
		if high >= 0 && low >= 0 && !shown(byte(high<<4+low)) {
			return byte(high<<4 + low), 4
		}
	case s != "" && shown(s[0]) && s[0] != '"' && s[0] != '\\':
		return s[0], 1
	}
	return 0, 0
}

func (r *reader) mark(rest string) {
	for _, m := range marks {
		if strings.HasPrefix(rest, m) {
			r.now.kind, r.now.s = markToken, m
			r.behind += len(m)
			return
		}
	}
	r.refuse()
}

// span is how many bytes s begins with that are so.
func span(s string, so func(byte) bool) int {
	n := 0
	for n < len(s) && so(s[n]) {
		n++
	}
	return n
}

func blank(c byte) bool { return c == ' ' || c == '\t' || c == '\n' }

func digit(c byte) bool { return '0' <= c && c <= '9' }

func letter(c byte) bool { return 'a' <= c && c <= 'z' }

func inWord(c byte) bool { return letter(c) || digit(c) || c == '_' }

// shown: does a byte stand for itself in a text (but for its marks)?
func shown(c byte) bool { return 32 <= c && c <= 126 }
