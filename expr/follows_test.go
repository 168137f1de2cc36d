package expr_test

import (
	"math"
	"math/rand"
	"slices"
	"strings"
	"testing"

	"wherry/api"
	"wherry/expr"
)

// mustComeBack: what Print says is parsed as the same parts, or was refused by
// ErrLong; answers the text.
func mustComeBack(t *testing.T, x api.Expr) string {
	t.Helper()
	s, err := expr.Print(x)
	switch {
	case !expr.May(x):
		if s != "" || err != api.ErrForm {
			t.Errorf("Print(%v): %q, %d", x, s, err)
		}
	case err != api.OK:
		if s != "" || err != api.ErrLong {
			t.Errorf("Print(%v): %q, %d", x, s, err)
		}
	default:
		mustParse(t, s, x)
	}
	return s
}

// P10.5: what was parsed is printed, and parsed as the same parts; no bracket that
// is printed could be left out.
func TestParsedComesBack(t *testing.T) {
	r := rand.New(rand.NewSource(1))
	for range 5000 {
		s := randomText(r, 1+r.Intn(30), 1+r.Intn(18))
		x, err, _ := expr.Parse(s)
		if err != api.OK {
			continue
		}
		printed := mustComeBack(t, x)
		if printed == "" && len(s)*3 < api.MaxExpr {
			t.Errorf("%q isn't printed", s)
		}
		mustNeedBrackets(t, printed, x)
	}
}

// mustNeedBrackets: without any pair of brackets the text has other parts, or none.
func mustNeedBrackets(t *testing.T, s string, x api.Expr) {
	t.Helper()
	tokens := strings.Split(s, " ")
	var opened []int
	for i, token := range tokens {
		switch token {
		case "(":
			opened = append(opened, i)
		case ")":
			from := opened[len(opened)-1]
			opened = opened[:len(opened)-1]
			less := slices.Concat(tokens[:from], tokens[from+1:i], tokens[i+1:])
			if y, err, _ := expr.Parse(strings.Join(less, " ")); err == api.OK && slices.Equal(x, y) {
				t.Errorf("%q has brackets that needn't be there", s)
			}
		}
	}
}

// randomParts are parts by chance, of so many operands at most.
func randomParts(r *rand.Rand, hands int) api.Expr {
	if hands <= 1 && r.Intn(3) > 0 {
		leaves := []api.Expr{n(0), n(r.Int63()), n(math.MaxInt64), val(truth(1)), val(truth(0)), val(text("")), val(text(`a b"\` + "\x00\xff")), val(text(times(r.Intn(300), "t"))), name("a"), name(times(32, "z"))}
		return leaves[r.Intn(len(leaves))]
	}
	if r.Intn(4) == 0 {
		return one(api.XNeg+r.Intn(3), randomParts(r, hands-1))
	}
	left := 1 + r.Intn(max(hands-1, 1))
	return two(api.XMul+r.Intn(13), randomParts(r, left), randomParts(r, hands-left))
}

// P10.5, P10.2: parts by chance come back, and so do their neighbours, each field
// changed, if they may be.
func TestPartsComeBack(t *testing.T) {
	r := rand.New(rand.NewSource(2))
	for range 500 {
		x := randomParts(r, r.Intn(12))
		if !expr.May(x) {
			t.Errorf("May(%v): false", x)
		}
		mustComeBack(t, x)
		for i, p := range x {
			for _, d := range []int{-2, -1, 1, 2} {
				for _, q := range []api.Part{{Op: p.Op + d, A: p.A, B: p.B, V: p.V}, {Op: p.Op, A: p.A + d, B: p.B, V: p.V}, {Op: p.Op, A: p.A, B: p.B + d, V: p.V}, {Op: p.Op, A: p.A, B: p.B, V: api.Value{Kind: p.V.Kind + d, N: p.V.N, S: p.V.S}}, {Op: p.Op, A: p.A, B: p.B, V: api.Value{Kind: p.V.Kind, N: p.V.N + int64(d), S: p.V.S}}} {
					mustComeBack(t, changed(x, i, q))
				}
			}
			mustComeBack(t, slices.Delete(slices.Clone(x), i, i+1))
			mustComeBack(t, slices.Insert(slices.Clone(x), i, p))
		}
	}
}

// P10.2, P10.5: of all short rows of parts just those may be that are put together
// by operators of numbers.
func TestAllShortParts(t *testing.T) {
	type row struct {
		count int
		parts [3]api.Part
	}
	keyOf := func(x api.Expr) row {
		k := row{count: len(x)}
		copy(k.parts[:], x)
		return k
	}
	may := map[row]int{}
	for _, x := range []api.Expr{n(1), neg(n(1)), neg(neg(n(1))), sum(n(1), n(1))} {
		may[keyOf(x)]++
	}
	var some []api.Part
	for _, op := range []int{0, api.XValue, api.XNeg, api.XAdd, 19} {
		for a := -1; a < 3; a++ {
			for b := -1; b < 3; b++ {
				some = append(some, api.Part{Op: op, A: a, B: b}, api.Part{Op: op, A: a, B: b, V: num(1)})
			}
		}
	}
	var grow func(x api.Expr)
	grow = func(x api.Expr) {
		if _, want := may[keyOf(x)]; expr.May(x) != want {
			t.Errorf("May(%v): %t", x, !want)
		}
		if len(x) == 3 {
			return
		}
		for _, p := range some {
			grow(append(slices.Clip(x), p))
		}
	}
	grow(nil)
}

// randomOf is an expr of that kind, by chance; its variables are i, b and s.
func randomOf(r *rand.Rand, kind, deep int) api.Expr {
	if deep == 0 {
		leaves := map[int][]api.Expr{
			api.Int:  {n(0), n(1), n(3), n(math.MaxInt64), name("i")},
			api.Bool: {val(truth(0)), val(truth(1)), name("b")},
			api.Text: {val(text("")), val(text("x")), val(text(times(400, "y"))), name("s")},
		}[kind]
		return leaves[r.Intn(len(leaves))]
	}
	of := func(kind int) api.Expr { return randomOf(r, kind, r.Intn(deep)) }
	switch {
	case kind == api.Text:
		return sum(of(api.Text), of(api.Text))
	case kind == api.Int && r.Intn(4) == 0:
		return length(of(api.Text))
	case kind == api.Int && r.Intn(4) == 0:
		return neg(of(api.Int))
	case kind == api.Int:
		return two(api.XMul+r.Intn(5), of(api.Int), of(api.Int))
	case r.Intn(4) == 0:
		return not(of(api.Bool))
	case r.Intn(3) == 0:
		return two(api.XAnd+r.Intn(2), of(api.Bool), of(api.Bool))
	}
	like := api.Int + 2*r.Intn(2)
	return two(api.XEq+r.Intn(6), of(like), of(like))
}

// P10.5: what Check finds right has a value of that kind, or ErrDiv, or ErrLong.
func TestCheckedHasAValue(t *testing.T) {
	r := rand.New(rand.NewSource(3))
	decls := []api.Decl{has("s", api.Text), has("i", api.Int), has("b", api.Bool)}
	counts := map[api.Errno]int{}
	for range 20000 {
		kind := api.Int + r.Intn(3)
		x := randomOf(r, kind, r.Intn(6))
		if !expr.May(x) {
			continue
		}
		if k, err, at := expr.Check(x, decls); k != kind || err != api.OK || at != -1 {
			t.Errorf("Check(%v): %d, %d at %d", x, k, err, at)
		}
		vars := []api.Var{is("b", truth(r.Int63n(2))), is("i", num(r.Int63n(5)-2)), is("s", text(times(r.Intn(1025), "s")))}
		v, err := expr.Eval(x, vars)
		if err == api.OK && v.Kind != kind || err != api.OK && v != (api.Value{}) {
			t.Errorf("Eval(%v): %v, %d", x, v, err)
		}
		counts[err]++
	}
	if len(counts) != 3 || counts[api.OK] < 1000 || counts[api.ErrDiv] < 100 || counts[api.ErrLong] < 100 {
		t.Errorf("%v", counts)
	}
}

// P10.3, P10.4: what Check finds wrong, and is all reckoned, is wrong by its value.
func TestUncheckedHasNone(t *testing.T) {
	r := rand.New(rand.NewSource(4))
	decls := []api.Decl{has("a", api.Int)}
	vars := []api.Var{is("a", num(2))}
	for range 5000 {
		x := randomParts(r, 1+r.Intn(6))
		lazy := slices.ContainsFunc(x, func(p api.Part) bool { return p.Op == api.XAnd || p.Op == api.XOr })
		_, want, _ := expr.Check(x, decls)
		if want == api.OK || lazy {
			continue
		}
		if _, err := expr.Eval(x, vars); err != want && err != api.ErrDiv && err != api.ErrLong {
			t.Errorf("Eval(%v): %d, Check %d", x, err, want)
		}
	}
}
