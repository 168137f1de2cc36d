package expr_test

import (
	"math"
	"math/big"
	"testing"

	"wherry/api"
	"wherry/expr"
)

// mustEval: a text comes to that value, with these variables.
func mustEval(t *testing.T, s string, want api.Value, vars ...api.Var) {
	t.Helper()
	if v, err := expr.Eval(parsed(t, s), vars); v != want || err != api.OK {
		t.Errorf("Eval(%q, %v): %v, %d, want %v", s, vars, v, err, want)
	}
}

// mustFail: a text comes to nothing, and that error.
func mustFail(t *testing.T, s string, want api.Errno, vars ...api.Var) {
	t.Helper()
	if v, err := expr.Eval(parsed(t, s), vars); v != (api.Value{}) || err != want {
		t.Errorf("Eval(%q, %v): %v, %d, want %d", s, vars, v, err, want)
	}
}

// truthOf is a Bool's value.
func truthOf(is bool) api.Value {
	if is {
		return truth(1)
	}
	return truth(0)
}

// P10.4: values and variables.
func TestEvalLeaves(t *testing.T) {
	for _, v := range []api.Value{num(0), num(-1), num(math.MinInt64), num(math.MaxInt64), truth(0), truth(1), text(""), text("a\x00\xff"), text(times(1024, "x"))} {
		mustEval(t, "x", v, is("x", v))
		mustEval(t, "x", v, is("a", num(1)), is("x", v), is("xx", num(2)))
		mustEval(t, "x == x", truth(1), is("x", v))
		mustEval(t, "x != x", truth(0), is("x", v))
	}
	mustEval(t, "0", num(0))
	mustEval(t, `"a\"\x00"`, text("a\"\x00"))
	mustEval(t, "true", truth(1))
	mustEval(t, "false", truth(0))
	mustFail(t, "x", api.ErrVar)
	mustFail(t, "x", api.ErrVar, is("a", num(1)), is("xx", num(1)))
}

// edges are Ints of all signs, those at both ends among them.
func edges() []int64 {
	return []int64{0, 1, -1, 2, -2, 3, -3, 5, -5, 7, -7, 10, 1 << 31, -1 << 31, 1<<32 + 1, 3037000500, -3037000500, math.MaxInt64, math.MaxInt64 - 1, math.MinInt64, math.MinInt64 + 1, 1 << 62, -1 << 62}
}

// round is a whole number's value, gone round at 2^64.
func round(n *big.Int) api.Value {
	low := new(big.Int).And(n, new(big.Int).SetUint64(math.MaxUint64))
	return num(int64(low.Uint64()))
}

// P10.4: arithmetic goes round at 2^64; a quotient is cut towards 0, a remainder
// has the dividend's sign; a division by 0 is none.
func TestEvalInts(t *testing.T) {
	for _, a := range edges() {
		mustEval(t, "- a", round(new(big.Int).Neg(big.NewInt(a))), is("a", num(a)))
		for _, b := range edges() {
			vars := []api.Var{is("a", num(a)), is("b", num(b))}
			x, y := big.NewInt(a), big.NewInt(b)
			mustEval(t, "a + b", round(new(big.Int).Add(x, y)), vars...)
			mustEval(t, "a - b", round(new(big.Int).Sub(x, y)), vars...)
			mustEval(t, "a * b", round(new(big.Int).Mul(x, y)), vars...)
			if b == 0 {
				mustFail(t, "a / b", api.ErrDiv, vars...)
				mustFail(t, "a % b", api.ErrDiv, vars...)
			} else {
				mustEval(t, "a / b", round(new(big.Int).Quo(x, y)), vars...)
				mustEval(t, "a % b", round(new(big.Int).Rem(x, y)), vars...)
			}
			order := x.Cmp(y)
			mustEval(t, "a == b", truthOf(order == 0), vars...)
			mustEval(t, "a != b", truthOf(order != 0), vars...)
			mustEval(t, "a < b", truthOf(order < 0), vars...)
			mustEval(t, "a <= b", truthOf(order <= 0), vars...)
			mustEval(t, "a > b", truthOf(order > 0), vars...)
			mustEval(t, "a >= b", truthOf(order >= 0), vars...)
		}
	}
}

// P10.4: signs and ends, written out.
func TestEvalIntsWrittenOut(t *testing.T) {
	for s, want := range map[string]int64{
		"7 / 2": 3, "-7 / 2": -3, "7 / -2": -3, "-7 / -2": 3, "7 % 2": 1, "-7 % 2": -1, "7 % -2": 1, "-7 % -2": -1, "0 / 5": 0, "0 % -5": 0,
		"9223372036854775807 + 1": math.MinInt64, "-9223372036854775807 - 2": math.MaxInt64, "9223372036854775807 * 2": -2, "(-9223372036854775807 - 1) / -1": math.MinInt64, "(-9223372036854775807 - 1) % -1": 0, "-(-9223372036854775807 - 1)": math.MinInt64,
		"2 + 3 * 4": 14, "(2 + 3) * 4": 20, "10 - 3 - 2": 5, "10 - (3 - 2)": 9, "100 / 10 / 5": 2, "17 % 10 % 4": 3, "--3": 3, "-(2 + 3)": -5, "len(\"abc\") * 2": 6,
	} {
		mustEval(t, s, num(want))
	}
}

// P10.4: truths.
func TestEvalTruths(t *testing.T) {
	for _, a := range []bool{false, true} {
		mustEval(t, "not a", truthOf(!a), is("a", truthOf(a)))
		for _, b := range []bool{false, true} {
			vars := []api.Var{is("a", truthOf(a)), is("b", truthOf(b))}
			mustEval(t, "a and b", truthOf(a && b), vars...)
			mustEval(t, "a or b", truthOf(a || b), vars...)
			mustEval(t, "a == b", truthOf(a == b), vars...)
			mustEval(t, "a != b", truthOf(a != b), vars...)
		}
	}
	mustEval(t, "false and true or true", truth(1))
	mustEval(t, "true or true and false", truth(1))
	mustEval(t, "(true or true) and false", truth(0))
}

// P10.4: texts are compared by bytes.
func TestEvalTexts(t *testing.T) {
	some := []string{"", "\x00", "a", "a\x00", "aa", "ab", "b", "B", "~", "\x7f", "\x80", "\xff", "é", "z", "10", "9"}
	for _, a := range some {
		mustEval(t, "len(a)", num(int64(len(a))), is("a", text(a)))
		for _, b := range some {
			vars := []api.Var{is("a", text(a)), is("b", text(b))}
			mustEval(t, "a + b", text(a+b), vars...)
			mustEval(t, "a == b", truthOf(a == b), vars...)
			mustEval(t, "a != b", truthOf(a != b), vars...)
			mustEval(t, "a < b", truthOf(a < b), vars...)
			mustEval(t, "a <= b", truthOf(a <= b), vars...)
			mustEval(t, "a > b", truthOf(a > b), vars...)
			mustEval(t, "a >= b", truthOf(a >= b), vars...)
		}
	}
}

// P10.4: a Text of 1024 bytes is one, of 1025 not, though it were asked only how
// long it is.
func TestEvalLongestText(t *testing.T) {
	half, whole := is("h", text(times(512, "h"))), is("w", text(times(1024, "w")))
	mustEval(t, "h + h", text(times(1024, "h")), half)
	mustEval(t, `w + ""`, whole.V, whole)
	mustEval(t, `"" + w`, whole.V, whole)
	mustEval(t, "len(h + h)", num(1024), half)
	mustFail(t, `h + h + "x"`, api.ErrLong, half)
	mustFail(t, `w + "x"`, api.ErrLong, whole)
	mustFail(t, `"x" + w`, api.ErrLong, whole)
	mustFail(t, "w + w", api.ErrLong, whole)
	mustFail(t, `len(w + "x")`, api.ErrLong, whole)
	mustFail(t, `w + "x" == "" and zz`, api.ErrLong, whole)
}

// P10.4: values whose kinds don't fit, as Check's.
func TestEvalKinds(t *testing.T) {
	vars := []api.Var{is("b", truth(1)), is("i", num(1)), is("s", text("x"))}
	for s, kind := range kinds() {
		for _, o := range []struct {
			ahead, behind string
			of            int
		}{{"- ", "", api.Int}, {"not ", "", api.Bool}, {"len(", ")", api.Text}} {
			if kind != o.of {
				mustFail(t, o.ahead+s+o.behind, api.ErrType, vars...)
			}
		}
		for q, qKind := range kinds() {
			for _, o := range operators() {
				if wantKind(o.s, kind, qKind) == 0 && !(o.op == api.XOr && kind == api.Bool) {
					mustFail(t, s+" "+o.s+" "+q, api.ErrType, vars...)
				}
			}
		}
	}
	mustFail(t, "false or 1", api.ErrType)
	mustFail(t, `false or "a"`, api.ErrType)
	mustFail(t, "0 and true", api.ErrType)
	mustFail(t, "1 or true", api.ErrType)
	mustFail(t, `"" and true`, api.ErrType)
}

// P10.4: and, or ask for what is right of them only, if what is left of them
// doesn't decide.
func TestEvalAsksForB(t *testing.T) {
	for b, err := range map[string]api.Errno{"zz": api.ErrVar, "1 / 0 == 1": api.ErrDiv, "-true": api.ErrType, "not 1": api.ErrType, "1": api.ErrType, `"a"`: api.ErrType, `w + "x" == w`: api.ErrLong} {
		w := is("w", text(times(1024, "w")))
		b = "(" + b + ")"
		mustEval(t, "false and "+b, truth(0), w)
		mustEval(t, "true or "+b, truth(1), w)
		mustFail(t, "true and "+b, err, w)
		mustFail(t, "false or "+b, err, w)
		mustFail(t, b+" and false", err, w)
		mustFail(t, b+" or true", err, w)
		mustEval(t, "1 == 2 and "+b+" or true", truth(1), w)
		mustEval(t, "not (true or "+b+")", truth(0), w)
	}
	mustEval(t, "false and zz and yy", truth(0))
	mustEval(t, "true or zz or yy", truth(1))
	mustEval(t, "false and zz or true", truth(1))
	mustEval(t, "true or zz and yy == 1", truth(1))
}

// P10.4: the first error ends it: A is reckoned before B, both before what they
// are used for. A left side of and, or that is no Bool doesn't decide.
func TestEvalFirstError(t *testing.T) {
	for s, err := range map[string]api.Errno{
		"zz + 1 / 0": api.ErrVar, "1 / 0 + zz": api.ErrDiv, "true * (1 / 0)": api.ErrDiv, "1 / 0 * true": api.ErrDiv, "-true + zz": api.ErrType, "zz + -true": api.ErrVar, "1 + true + zz": api.ErrType, "1 + (true + zz)": api.ErrVar, "true / 0": api.ErrType, `"a" % 0`: api.ErrType, "1 / (2 - 2) == zz": api.ErrDiv, "len(zz)": api.ErrVar, "not (1 / 0)": api.ErrDiv, "(1 < true) == zz": api.ErrType,
		"1 and zz": api.ErrVar, "0 or 1 / 0": api.ErrDiv, `"" and -true`: api.ErrType, "1 and true": api.ErrType, "0 or true": api.ErrType,
	} {
		mustFail(t, s, err)
	}
}

// P10.4: variables that aren't right are ErrArg, whether they are asked for or not.
func TestEvalOfWrongVars(t *testing.T) {
	var many []api.Var
	for i := range 17 {
		many = append(many, is(string(rune('a'+i)), num(1)))
	}
	mustEval(t, "p", num(1), many[:16]...)
	for _, l := range [][]api.Var{
		many, {is("b", num(1)), is("a", num(1))}, {is("a", num(1)), is("a", num(1))}, {is("", num(1))}, {is("and", num(1))}, {is("A", num(1))}, {is(times(33, "a"), num(1))}, {is("a", api.Value{})}, {is("a", truth(2))}, {is("a", text(times(1025, "x")))}, {is("a", api.Value{Kind: api.Int, S: "x"})}, {is("a", num(1)), is("b", api.Value{Kind: 4})},
	} {
		for _, s := range []string{"1", "a", "zz", "1 / 0", "-true"} {
			mustFail(t, s, api.ErrArg, l...)
		}
	}
}
