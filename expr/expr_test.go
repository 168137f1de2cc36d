package expr_test

import (
	"slices"
	"strings"
	"testing"

	"wherry/api"
	"wherry/expr"
)

// num, truth and text are values of the three kinds.
func num(n int64) api.Value   { return api.Value{Kind: api.Int, N: n} }
func truth(n int64) api.Value { return api.Value{Kind: api.Bool, N: n} }
func text(s string) api.Value { return api.Value{Kind: api.Text, S: s} }

// is is a variable, has its declaration.
func is(name string, v api.Value) api.Var { return api.Var{Name: name, V: v} }
func has(name string, kind int) api.Decl  { return api.Decl{Name: name, Kind: kind} }
func leaf(op int, v api.Value) api.Expr   { return api.Expr{{Op: op, A: -1, B: -1, V: v}} }
func val(v api.Value) api.Expr            { return leaf(api.XValue, v) }
func n(n int64) api.Expr                  { return val(num(n)) }
func name(s string) api.Expr              { return leaf(api.XVar, text(s)) }
func times(n int, s string) string        { return strings.Repeat(s, n) }
func one(op int, a api.Expr) api.Expr     { return joined(op, a, nil) }
func two(op int, a, b api.Expr) api.Expr  { return joined(op, a, b) }
func sum(a, b api.Expr) api.Expr          { return two(api.XAdd, a, b) }
func neg(a api.Expr) api.Expr             { return one(api.XNeg, a) }
func not(a api.Expr) api.Expr             { return one(api.XNot, a) }
func length(a api.Expr) api.Expr          { return one(api.XLen, a) }
func changed(x api.Expr, i int, p api.Part) api.Expr {
	y := slices.Clone(x)
	y[i] = p
	return y
}

// joined are a's parts, b's (none: it has but one hand), and the operator's.
func joined(op int, a, b api.Expr) api.Expr {
	x := slices.Clone(a)
	for _, p := range b {
		if p.A >= 0 {
			p.A += len(a)
		}
		if p.B >= 0 {
			p.B += len(a)
		}
		x = append(x, p)
	}
	last := api.Part{Op: op, A: len(a) - 1, B: -1}
	if len(b) > 0 {
		last.B = len(x) - 1
	}
	return append(x, last)
}

// chain is a row of sums of n ones: 2n - 1 parts.
func chain(count int) api.Expr {
	x := n(1)
	for range count - 1 {
		x = sum(x, n(1))
	}
	return x
}

// operator is a two-handed one.
type operator struct {
	op, level int
	s         string
}

// operators are all two-handed ones.
func operators() []operator {
	return []operator{
		{api.XOr, 1, "or"}, {api.XAnd, 2, "and"},
		{api.XEq, 3, "=="}, {api.XNe, 3, "!="}, {api.XLt, 3, "<"}, {api.XLe, 3, "<="}, {api.XGt, 3, ">"}, {api.XGe, 3, ">="},
		{api.XAdd, 4, "+"}, {api.XSub, 4, "-"},
		{api.XMul, 5, "*"}, {api.XDiv, 5, "/"}, {api.XMod, 5, "%"},
	}
}

// mustParse: a text has just these parts.
func mustParse(t *testing.T, s string, want api.Expr) {
	t.Helper()
	x, err, at := expr.Parse(s)
	if err != api.OK || at != 0 || !slices.Equal(x, want) {
		t.Errorf("Parse(%q): %v, %d at %d, want %v", s, x, err, at, want)
	}
}

// mustRefuse: a text is refused so, there.
func mustRefuse(t *testing.T, s string, err api.Errno, at int) {
	t.Helper()
	if x, e, i := expr.Parse(s); len(x) != 0 || e != err || i != at {
		t.Errorf("Parse(%q): %v, %d at %d, want %d at %d", s, x, e, i, err, at)
	}
}

// parsed are the parts of a text that has some.
func parsed(t *testing.T, s string) api.Expr {
	t.Helper()
	x, err, at := expr.Parse(s)
	if err != api.OK {
		t.Fatalf("Parse(%q): %d at %d", s, err, at)
	}
	return x
}

// P10.1 to P10.4: the chapter's examples.
func TestExamples(t *testing.T) {
	x := parsed(t, "a + 1 * 2 == 7")
	if len(x) != 7 {
		t.Errorf("%v", x)
	}
	mustEval(t, "a + 1 * 2 == 7", truth(1), is("a", num(5)))
	mustPrint(t, parsed(t, `not x and "a" < "b"`), `not x and "a" < "b"`)
	mustRefuse(t, "1 +", api.ErrSyntax, 3)
	mustEval(t, `len("abc")`, num(3))
	mustFail(t, "1 / 0", api.ErrDiv)
}

// R2, R3: what is handed in is as it was, and what comes out shares nothing with
// another answer.
func TestNothingIsWritten(t *testing.T) {
	const s = `-a * (b + 2) == 3 or not (len(c + "x") < 4) and d`
	x := parsed(t, s)
	was := slices.Clone(x)
	vars := []api.Var{is("a", num(1)), is("b", num(2)), is("c", text("y")), is("d", truth(1))}
	decls := []api.Decl{has("d", api.Bool), has("a", api.Int), has("c", api.Text), has("b", api.Int)}
	varsWere, declsWere := slices.Clone(vars), slices.Clone(decls)
	for range 2 {
		expr.May(x)
		expr.Print(x)
		expr.Check(x, decls)
		expr.Eval(x, vars)
	}
	if !slices.Equal(x, was) || !slices.Equal(vars, varsWere) || !slices.Equal(decls, declsWere) {
		t.Error("what was handed in has changed")
	}
	y := parsed(t, s)
	clear(y[:cap(y)])
	if !slices.Equal(x, was) || !slices.Equal(parsed(t, s), was) {
		t.Error("answers share their parts")
	}
	spare := make([]api.Part, len(x)+8)
	copy(spare, x)
	spare[len(x)] = api.Part{Op: 77}
	expr.Print(spare[:len(x)])
	expr.Eval(spare[:len(x)], vars)
	if spare[len(x)].Op != 77 {
		t.Error("spare room was written into")
	}
}
