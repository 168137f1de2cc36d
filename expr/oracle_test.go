package expr_test

import (
	"math/big"
	"math/rand"
	"regexp"
	"slices"
	"strconv"
	"strings"
	"testing"

	"wherry/api"
	"wherry/expr"
)

// tokenRow is what may stand at the front, longest forms first.
var tokenRow = regexp.MustCompile(`^(?:([0-9]+)|([a-z][a-z0-9_]*)|("(?:[ !#-\[\]-~]|\\["\\]|\\x(?:[01][0-9a-f]|7f|[89a-f][0-9a-f]))*")|(==|!=|<=|>=|[-()+*/%<>]))`)

// yardToken is one of a text; kind: n, w, t, m, or e for the end, ? for none.
type yardToken struct {
	kind byte
	at   int
	s    string
}

// yardTokens are a text's, up to its end or to one that is none.
func yardTokens(s string) []yardToken {
	var l []yardToken
	at := 0
	for {
		at = len(s) - len(strings.TrimLeft(s[at:], " \t\n"))
		if at == len(s) {
			return append(l, yardToken{'e', at, ""})
		}
		m := tokenRow.FindStringSubmatch(s[at:])
		if m == nil {
			return append(l, yardToken{'?', at, ""})
		}
		t := yardToken{'m', at, m[0]}
		switch n, _ := new(big.Int).SetString("0"+m[1], 10); {
		case m[1] != "" && (m[0] != "0" && m[0][0] == '0' || n.BitLen() > 63):
			return append(l, yardToken{'?', at, ""})
		case m[1] != "":
			t.kind = 'n'
		case len(m[2]) > 32:
			return append(l, yardToken{'?', at, ""})
		case m[2] != "":
			t.kind = 'w'
		case m[3] != "":
			t.kind = 't'
		}
		l = append(l, t)
		at += len(m[0])
	}
}

// held is what waits in the yard: a two-handed operator, one with one hand, or a
// bracket (op 0, or XLen ahead of it).
type held struct {
	op, level int
	bracket   bool
}

// yard reads a text in another way: by a row of what waits, not by calls within
// calls.
type yard struct {
	waits []held
	done  []int // the places of the parts that none is of yet
	parts api.Expr
}

func (y *yard) emit(op int, v api.Value) {
	p := api.Part{Op: op, A: -1, B: -1, V: v}
	switch k := len(y.done); {
	case op >= api.XMul:
		p.A, p.B = y.done[k-2], y.done[k-1]
		y.done = y.done[:k-2]
	case op >= api.XNeg:
		p.A = y.done[k-1]
		y.done = y.done[:k-1]
	}
	y.done = append(y.done, len(y.parts))
	y.parts = append(y.parts, p)
}

// reduce emits what waits at the top, while it binds at least so much.
func (y *yard) reduce(level int) {
	for len(y.waits) > 0 {
		top := y.waits[len(y.waits)-1]
		if top.bracket || top.level < level {
			return
		}
		y.waits = y.waits[:len(y.waits)-1]
		y.emit(top.op, api.Value{})
	}
}

// opened are the operands that have begun and not ended.
func (y *yard) opened() int {
	k := 0
	for _, h := range y.waits {
		if h.bracket || h.level == 6 {
			k++
		}
	}
	return k
}

// operand takes a token where one begins; what is wanted next: o, an operator, b,
// a bracket, x, an operand; or 0: it may not stand there.
func (y *yard) operand(t yardToken) byte {
	switch {
	case t.kind == 'n':
		v, _ := strconv.ParseInt(t.s, 10, 64)
		y.emit(api.XValue, num(v))
	case t.kind == 't':
		v, _ := strconv.Unquote(t.s)
		y.emit(api.XValue, text(v))
	case t.s == "-":
		y.waits = append(y.waits, held{api.XNeg, 6, false})
		return 'x'
	case t.s == "not":
		y.waits = append(y.waits, held{api.XNot, 6, false})
		return 'x'
	case t.s == "(":
		y.waits = append(y.waits, held{0, 0, true})
		return 'x'
	case t.s == "len":
		return 'b'
	case t.s == "true" || t.s == "false":
		y.emit(api.XValue, truthOf(t.s == "true"))
	case t.kind == 'w' && t.s != "and" && t.s != "or":
		y.emit(api.XVar, text(t.s))
	default:
		return 0
	}
	y.reduce(6)
	return 'o'
}

// operator takes a token behind an operand; what is wanted next as operand's, d: it
// was the end.
func (y *yard) operator(t yardToken) (byte, api.Errno) {
	level := 0
	for _, o := range operators() {
		if o.s == t.s && t.kind != 't' {
			level = o.level
			defer func() { y.waits = append(y.waits, held{o.op, o.level, false}) }()
		}
	}
	y.reduce(level)
	k := len(y.waits)
	switch {
	case len(y.parts) > api.MaxParts:
		return 0, api.ErrLong
	case level > 0:
		return 'x', api.OK
	case t.kind == 'e' && k == 0:
		return 'd', api.OK
	case t.kind != 'm' || t.s != ")" || k == 0:
		return 0, api.ErrSyntax
	}
	op := y.waits[k-1].op
	y.waits = y.waits[:k-1]
	if op != 0 {
		y.emit(op, api.Value{})
	}
	y.reduce(6)
	return 'o', api.OK
}

// byYard is what Parse answers of a text of at most 512 bytes.
func byYard(s string) (api.Expr, api.Errno, int) {
	y := &yard{}
	want := byte('x')
	for _, t := range yardTokens(s) {
		err := api.OK
		switch {
		case t.kind == '?':
			err = api.ErrSyntax
		case len(y.parts) > api.MaxParts, want == 'x' && y.opened() >= api.MaxNest:
			err = api.ErrLong
		case want == 'x':
			if want = y.operand(t); want == 0 {
				err = api.ErrSyntax
			}
		case want == 'o':
			want, err = y.operator(t)
		case t.s == "(" && t.kind == 'm':
			y.waits = append(y.waits, held{api.XLen, 0, true})
			want = 'x'
		default:
			err = api.ErrSyntax
		}
		if err != api.OK {
			return nil, err, t.at
		}
	}
	return y.parts, api.OK, 0
}

// mustAgree: Parse and the yard answer the same.
func mustAgree(t *testing.T, s string) bool {
	t.Helper()
	want, wantErr, wantAt := byYard(s)
	x, err, at := expr.Parse(s)
	if err != wantErr || at != wantAt || !slices.Equal(x, want) {
		t.Errorf("Parse(%q): %v, %d at %d, want %v, %d at %d", s, x, err, at, want, wantErr, wantAt)
	}
	return err == api.OK
}

// P10.1: all short rows of tokens, with blanks and without.
func TestParseAllShortRows(t *testing.T) {
	all := []string{"1", "a", `"s"`, "true", "-", "not", "len", "(", ")", "*", "+", "<", "==", "and", "or", "00", "$"}
	few := []string{"1", "-", "len", "(", ")", "*", "<", "<=", "or"}
	read := 0
	var row func(s, between string, some []string, most int)
	row = func(s, between string, some []string, most int) {
		if mustAgree(t, s) {
			read++
		}
		if most == 0 || t.Failed() {
			return
		}
		for _, x := range some {
			row(s+between+x, between, some, most-1)
		}
	}
	row("", " ", all, 4)
	row("", "", all, 4)
	row("", " ", few, 5)
	if read < 1000 {
		t.Errorf("only %d were read", read)
	}
}

// P10.1: all short rows of bytes.
func TestParseAllShortTexts(t *testing.T) {
	const some = "01ax\"\\=!<-( )"
	var row func(s string, most int)
	row = func(s string, most int) {
		mustAgree(t, s)
		if most == 0 || t.Failed() {
			return
		}
		for i := range len(some) {
			row(s+some[i:i+1], most-1)
		}
	}
	row("", 5)
}

// randomText is a text of an expr, by chance; hands: how many operands it has at
// most, deep: how deep it nests at most.
func randomText(r *rand.Rand, hands, deep int) string {
	leaves := []string{"0", "1", "a", "b_2", "true", "false", `""`, `"\x00"`, "77"}
	if deep == 0 || hands <= 1 && r.Intn(4) > 0 {
		return leaves[r.Intn(len(leaves))]
	}
	ops := operators()
	switch r.Intn(10) {
	case 0:
		return "-" + randomText(r, 1, deep-1)
	case 1:
		return "not " + randomText(r, 1, deep-1)
	case 2:
		return "len(" + randomText(r, hands, deep-1) + ")"
	case 3, 4:
		return "(" + randomText(r, hands, deep-1) + ")"
	}
	left := 1 + r.Intn(max(hands-1, 1))
	return randomText(r, left, deep) + " " + ops[r.Intn(len(ops))].s + " " + randomText(r, max(hands-left, 1), deep)
}

// P10.1: long texts by chance, as they are and with some bytes changed, left out
// or put in.
func TestParseLongTexts(t *testing.T) {
	r := rand.New(rand.NewSource(10))
	counts := map[api.Errno]int{}
	for range 20000 {
		s := randomText(r, 1+r.Intn(80), 1+r.Intn(24))
		for range r.Intn(3) {
			i := r.Intn(len(s) + 1)
			put := []string{"", "", "(", ")", "-", " ", "$", "1", "+", "not ", "\"", strings.Repeat("(", 20)}[r.Intn(12)]
			s = s[:i] + put + s[min(i+r.Intn(2), len(s)):]
		}
		if len(s) <= api.MaxExpr {
			mustAgree(t, s)
			_, err, _ := expr.Parse(s)
			counts[err]++
		}
		if t.Failed() {
			return
		}
	}
	if counts[api.OK] < 1000 || counts[api.ErrSyntax] < 1000 || counts[api.ErrLong] < 500 {
		t.Errorf("%v", counts)
	}
}
