package expr_test

import (
	"math"
	"testing"

	"wherry/api"
	"wherry/expr"
)

// mustPrint: parts have just this text.
func mustPrint(t *testing.T, x api.Expr, want string) {
	t.Helper()
	if s, err := expr.Print(x); s != want || err != api.OK || !expr.May(x) {
		t.Errorf("Print(%v): %q, %d, want %q", x, s, err, want)
	}
}

// mustNotBe: no text has such parts, and each call says so.
func mustNotBe(t *testing.T, x api.Expr) {
	t.Helper()
	if expr.May(x) {
		t.Errorf("May(%v)", x)
	}
	if s, err := expr.Print(x); s != "" || err != api.ErrForm {
		t.Errorf("Print(%v): %q, %d", x, s, err)
	}
	if kind, err, at := expr.Check(x, []api.Decl{has("and", 7)}); kind != 0 || err != api.ErrForm || at != -1 {
		t.Errorf("Check(%v): %d, %d at %d", x, kind, err, at)
	}
	if v, err := expr.Eval(x, []api.Var{is("and", num(7))}); v != (api.Value{}) || err != api.ErrForm {
		t.Errorf("Eval(%v): %v, %d", x, v, err)
	}
}

// P10.2: values and names, one by one.
func TestPrintLeaves(t *testing.T) {
	for want, x := range map[string]api.Expr{
		"0": n(0), "7": n(7), "9223372036854775807": n(math.MaxInt64), "true": val(truth(1)), "false": val(truth(0)),
		`""`: val(text("")), `"a\"b\\"`: val(text(`a"b\`)), `"\x00\x1f ~\x7f\xff"`: val(text("\x00\x1f ~\x7f\xff")), `"and"`: val(text("and")),
		"a": name("a"), "a_1": name("a_1"), "andy": name("andy"), times(32, "n"): name(times(32, "n")),
	} {
		mustPrint(t, x, want)
	}
}

// P10.2: there is a blank between each two tokens.
func TestPrintBlanks(t *testing.T) {
	for s, want := range map[string]string{
		"-1": "- 1", "--1": "- - 1", "not not a": "not not a", "-not-a": "- not - a", "len(a)": "len ( a )", `len("a b")`: `len ( "a b" )`, "len(len(a))": "len ( len ( a ) )",
		"a+b": "a + b", "a  <=\n\tb": "a <= b", "a*(b+c)": "a * ( b + c )", "(a*b)+c": "a * b + c", "((a))": "a", "-(a)": "- a", "-(a+b)": "- ( a + b )", "len((a))": "len ( a )", "-len(a+b)": "- len ( a + b )", "-(-(a))": "- - a",
		"a-(b-c)": "a - ( b - c )", "(a-b)-c": "a - b - c", "not (a and b) or c": "not ( a and b ) or c", "not (a) and b": "not a and b", "-(a*b)": "- ( a * b )", "(-a)*b": "- a * b", "a*(-b)": "a * - b",
	} {
		mustPrint(t, parsed(t, s), want)
	}
}

// P10.2: brackets are round an operand of a lower level, a right one of the same
// level too, and round all that is two-handed behind - and not.
func TestPrintBracketsOfLevels(t *testing.T) {
	a, b, c := name("a"), name("b"), name("c")
	for _, o := range operators() {
		plain := "a " + o.s + " b"
		mustPrint(t, two(o.op, a, b), plain)
		mustPrint(t, neg(two(o.op, a, b)), "- ( "+plain+" )")
		mustPrint(t, not(two(o.op, a, b)), "not ( "+plain+" )")
		mustPrint(t, length(two(o.op, a, b)), "len ( "+plain+" )")
		mustPrint(t, two(o.op, neg(a), not(b)), "- a "+o.s+" not b")
		mustPrint(t, two(o.op, length(a), length(b)), "len ( a ) "+o.s+" len ( b )")
		for _, q := range operators() {
			left, right := "a "+o.s+" b "+q.s+" c", "a "+q.s+" b "+o.s+" c"
			if o.level < q.level {
				left = "( a " + o.s + " b ) " + q.s + " c"
			}
			if o.level <= q.level {
				right = "a " + q.s + " ( b " + o.s + " c )"
			}
			mustPrint(t, two(q.op, two(o.op, a, b), c), left)
			mustPrint(t, two(q.op, a, two(o.op, b, c)), right)
		}
	}
}

// P10.2: each operator's own form, part by part: nothing, parts that aren't there,
// that stand elsewhere, or that none is of.
func TestMayNotOfShapes(t *testing.T) {
	one, two, zero := n(1)[0], n(2)[0], api.Part{}
	add := api.Part{Op: api.XAdd, A: 0, B: 1}
	for _, x := range []api.Expr{
		nil, {}, {zero}, {{Op: api.XNeg, A: -1, B: -1}}, {{Op: api.XNeg, A: 0, B: -1}}, {{Op: api.XNeg, A: 1, B: -1}, one}, {{Op: api.XAdd, A: -1, B: -1}}, {{Op: api.XAdd, A: 0, B: 0}},
		{one, two}, {one, one}, {one, two, two}, {one, two, add, two}, {two, one, two, add}, {one, add, two}, {add, one, two}, {one, {Op: api.XAdd, A: 0, B: 0}}, {one, {Op: api.XAdd, A: -1, B: 0}}, {one, {Op: api.XAdd, A: 0, B: -1}},
		{one, two, {Op: api.XAdd, A: 1, B: 0}}, {one, two, {Op: api.XAdd, A: 1, B: 1}}, {one, two, {Op: api.XAdd, A: 0, B: 0}}, {one, two, {Op: api.XAdd, A: 0, B: 2}}, {one, two, {Op: api.XAdd, A: 0, B: 3}}, {one, two, {Op: api.XAdd, A: -1, B: 1}}, {one, two, {Op: api.XAdd, A: math.MinInt, B: 1}}, {one, two, {Op: api.XAdd, A: math.MaxInt, B: 1}}, {one, two, {Op: api.XAdd, A: 0, B: math.MaxInt}},
		{one, two, {Op: api.XNeg, A: 0, B: -1}}, {one, two, {Op: api.XNeg, A: 1, B: -1}}, {one, {Op: api.XNeg, A: 1, B: -1}}, {one, {Op: api.XNeg, A: 0, B: 0}}, {one, {Op: api.XNeg, A: 0, B: -2}}, {one, {Op: api.XNeg, A: 0, B: 1}}, {one, {Op: api.XNeg, A: math.MaxInt, B: -1}},
		{one, two, one, {Op: api.XAdd, A: 0, B: 2}}, {one, two, one, {Op: api.XAdd, A: 1, B: 2}}, {one, two, one, {Op: api.XAdd, A: 1, B: 2}, {Op: api.XAdd, A: 1, B: 3}},
	} {
		mustNotBe(t, x)
	}
	for _, op := range []int{math.MinInt, -1, 0, 19, 20, 255, math.MaxInt} {
		mustNotBe(t, api.Expr{{Op: op, A: -1, B: -1}})
		mustNotBe(t, api.Expr{{Op: op, A: -1, B: -1, V: num(1)}})
		mustNotBe(t, api.Expr{one, {Op: op, A: 0, B: -1}})
		mustNotBe(t, api.Expr{one, two, {Op: op, A: 0, B: 1}})
	}
}

// P10.2: what a value, a name, and an operator may not hold: numbers below 0 have
// no text.
func TestMayNotOfValues(t *testing.T) {
	for _, v := range []api.Value{
		{}, num(-1), num(math.MinInt64), {Kind: api.Int, N: 1, S: "a"}, {Kind: api.Bool, N: 2}, {Kind: api.Bool, N: -1}, {Kind: api.Bool, S: "a"}, {Kind: api.Text, N: 1}, {Kind: api.Text, N: -1, S: "a"}, text(times(1025, "a")), {Kind: 4}, {Kind: -1}, {Kind: 0, N: 1}, {Kind: 7, S: "a"},
	} {
		mustNotBe(t, val(v))
		mustNotBe(t, not(val(v)))
		mustNotBe(t, sum(n(1), val(v)))
		mustNotBe(t, sum(val(v), n(1)))
		if v != (api.Value{}) {
			for _, o := range []int{api.XNeg, api.XNot, api.XLen} {
				mustNotBe(t, api.Expr{n(1)[0], {Op: o, A: 0, B: -1, V: v}})
			}
			for _, o := range operators() {
				mustNotBe(t, api.Expr{n(1)[0], n(1)[0], {Op: o.op, A: 0, B: 1, V: v}})
			}
		}
	}
	mustNotBe(t, api.Expr{n(1)[0], {Op: api.XNeg, A: 0, B: -1, V: num(0)}})
	for _, v := range []api.Value{
		{}, text(""), text("and"), text("or"), text("not"), text("true"), text("false"), text("len"), text("A"), text("1a"), text("_a"), text("a b"), text("a "), text("a-b"), text("\xff"), text(times(33, "a")), num(1), truth(1), {S: "a"}, {Kind: api.Int, S: "a"}, {Kind: api.Bool, S: "a"}, {Kind: api.Text, N: 1, S: "a"}, {Kind: 4, S: "a"},
	} {
		mustNotBe(t, leaf(api.XVar, v))
		mustNotBe(t, neg(leaf(api.XVar, v)))
		mustNotBe(t, sum(n(1), leaf(api.XVar, v)))
	}
	for _, p := range []api.Part{{A: -1, B: 0}, {A: 0, B: -1}, {A: 0, B: 0}, {A: -2, B: -1}, {A: -1, B: -2}} {
		p.Op, p.V = api.XValue, num(1)
		mustNotBe(t, api.Expr{p})
		p.Op, p.V = api.XVar, text("a")
		mustNotBe(t, api.Expr{p})
	}
}

// P10.2: the longest text that may be, and parts that only a text of more than 512
// bytes has: they may be, but aren't printed.
func TestPrintLongest(t *testing.T) {
	mustPrint(t, val(text(times(510, "a"))), `"`+times(510, "a")+`"`)
	mustPrint(t, val(text(times(127, "\x00")+"ab")), `"`+times(127, `\x00`)+`ab"`)
	mustPrint(t, sum(n(1), val(text(times(506, "a")))), `1 + "`+times(506, "a")+`"`)
	mustPrint(t, sum(n(1), length(val(text(times(498, "a"))))), `1 + len ( "`+times(498, "a")+`" )`)
	mustPrint(t, two(api.XMul, n(1), sum(n(2), val(text(times(498, "a"))))), `1 * ( 2 + "`+times(498, "a")+`" )`)
	for _, x := range []api.Expr{
		val(text(times(511, "a"))), val(text(times(127, "\x00") + "abc")), val(text(times(1024, "a"))), val(text(times(1024, "\xff"))), sum(n(1), val(text(times(507, "a")))), sum(n(1), length(val(text(times(499, "a"))))), two(api.XMul, n(1), sum(n(2), val(text(times(499, "a"))))),
		neg(val(text(times(509, "a")))), not(val(text(times(507, "a")))),
	} {
		if s, err := expr.Print(x); s != "" || err != api.ErrLong || !expr.May(x) {
			t.Errorf("%q, %d, May %t", s, err, expr.May(x))
		}
	}
	long := chain(50)
	for i := range long {
		if long[i].Op == api.XValue {
			long[i].V = text(times(1024, "\xff"))
		}
	}
	if s, err := expr.Print(long); s != "" || err != api.ErrLong || !expr.May(long) {
		t.Errorf("%q, %d, May %t", s, err, expr.May(long))
	}
}

// P10.2: 100 parts may be, 101 not.
func TestMayMostParts(t *testing.T) {
	mustPrint(t, chain(50), "1"+times(49, " + 1"))
	mustPrint(t, neg(chain(50)), "- ( 1"+times(49, " + 1")+" )")
	mustNotBe(t, chain(51))
	mustNotBe(t, neg(neg(chain(50))))
	mustNotBe(t, chain(500))
	mustNotBe(t, make(api.Expr, 1000))
}

// P10.2: what nests more in every text than Parse reads is no text's.
func TestMayNests(t *testing.T) {
	for i, w := range []struct {
		most   int // as often it may be put around a number
		around func(api.Expr) api.Expr
	}{
		{19, neg}, {19, not}, {19, length},
		{19, func(x api.Expr) api.Expr { return two(api.XMul, n(1), two(api.XAdd, n(2), x)) }},
		{20, func(x api.Expr) api.Expr { return two(api.XSub, n(1), x) }},
		{19, func(x api.Expr) api.Expr { return two(api.XAnd, two(api.XOr, x, n(1)), n(2)) }},
	} {
		x := n(1)
		for range w.most {
			x = w.around(x)
			s, err := expr.Print(x)
			if err != api.OK {
				t.Errorf("%d: Print(%v): %d", i, x, err)
			}
			mustParse(t, s, x)
		}
		for range 3 {
			x = w.around(x)
			mustNotBe(t, x)
		}
	}
	x := n(1)
	for range 18 {
		x = neg(x)
	}
	mustPrint(t, length(sum(n(2), x)), "len ( 2 + "+times(18, "- ")+"1 )") // its brackets are its own
	mustNotBe(t, neg(sum(n(2), x)))
	x = neg(x)
	mustPrint(t, x, times(19, "- ")+"1")
	mustPrint(t, sum(x, x), times(19, "- ")+"1 + "+times(19, "- ")+"1")
	mustNotBe(t, neg(x))
	mustNotBe(t, length(x))
	mustNotBe(t, not(x))
	mustNotBe(t, neg(sum(x, n(1))))
	mustNotBe(t, sum(n(1), sum(n(2), x)))
	mustNotBe(t, two(api.XMul, sum(n(2), x), n(1)))
	mustNotBe(t, sum(n(1), neg(x)))
}

// P10.2: operators that need no brackets nest nothing, however many there are.
func TestMayRowsNestNothing(t *testing.T) {
	x := n(1)
	for range 19 {
		x = not(x)
	}
	y := x
	for range 3 {
		y = two(api.XOr, y, x)
	}
	mustPrint(t, y, times(19, "not ")+"1"+times(3, " or "+times(19, "not ")+"1"))
	climb := two(api.XOr, n(1), two(api.XAnd, n(2), two(api.XEq, n(3), two(api.XAdd, n(4), two(api.XMul, n(5), x)))))
	mustPrint(t, climb, "1 or 2 and 3 == 4 + 5 * "+times(19, "not ")+"1")
}
