package expr_test

import (
	"math"
	"testing"

	"wherry/api"
	"wherry/expr"
)

// declared are variables of each kind: i, j; b, c; s, t.
func declared() []api.Decl {
	return []api.Decl{has("s", api.Text), has("b", api.Bool), has("i", api.Int), has("t", api.Text), has("j", api.Int), has("c", api.Bool)}
}

// mustCheck: a text's parts are of that kind, or wrong so, there.
func mustCheck(t *testing.T, s string, kind int, err api.Errno, at int) {
	t.Helper()
	if k, e, i := expr.Check(parsed(t, s), declared()); k != kind || e != err || i != at {
		t.Errorf("Check(%q): %d, %d at %d, want %d, %d at %d", s, k, e, i, kind, err, at)
	}
}

// kinds are a name of each kind.
func kinds() map[string]int {
	return map[string]int{"i": api.Int, "b": api.Bool, "s": api.Text, "3": api.Int, "true": api.Bool, `"x"`: api.Text}
}

// P10.3: values and variables are of their own kind.
func TestCheckLeaves(t *testing.T) {
	for s, kind := range kinds() {
		mustCheck(t, s, kind, api.OK, -1)
		mustCheck(t, "("+s+")", kind, api.OK, -1)
	}
}

// P10.3: operators with one hand.
func TestCheckOneHand(t *testing.T) {
	for s, kind := range kinds() {
		for _, o := range []struct {
			ahead, behind string
			of, is        int
		}{{"- ", "", api.Int, api.Int}, {"not ", "", api.Bool, api.Bool}, {"len(", ")", api.Text, api.Int}} {
			if kind == o.of {
				mustCheck(t, o.ahead+s+o.behind, o.is, api.OK, -1)
			} else {
				mustCheck(t, o.ahead+s+o.behind, 0, api.ErrType, 1)
			}
		}
	}
}

// wantKind is what a two-handed operator makes of kinds, 0: nothing, written out.
func wantKind(o string, a, b int) int {
	ints, bools, texts := a == api.Int && b == api.Int, a == api.Bool && b == api.Bool, a == api.Text && b == api.Text
	switch o {
	case "*", "/", "%", "-":
		if ints {
			return api.Int
		}
	case "+":
		if ints {
			return api.Int
		}
		if texts {
			return api.Text
		}
	case "==", "!=":
		if ints || bools || texts {
			return api.Bool
		}
	case "<", "<=", ">", ">=":
		if ints || texts {
			return api.Bool
		}
	case "and", "or":
		if bools {
			return api.Bool
		}
	}
	return 0
}

// P10.3: operators with two hands, of each pair of kinds.
func TestCheckTwoHands(t *testing.T) {
	for _, o := range operators() {
		for a, aKind := range kinds() {
			for b, bKind := range kinds() {
				s := a + " " + o.s + " " + b
				if kind := wantKind(o.s, aKind, bKind); kind != 0 {
					mustCheck(t, s, kind, api.OK, -1)
				} else {
					mustCheck(t, s, 0, api.ErrType, 2)
				}
			}
		}
	}
}

// P10.3: the first part along the parts that is wrong is told, be there others.
func TestCheckFirstWrong(t *testing.T) {
	mustCheck(t, "zz", 0, api.ErrVar, 0)
	mustCheck(t, "i + zz", 0, api.ErrVar, 1)
	mustCheck(t, "yy + zz", 0, api.ErrVar, 0)
	mustCheck(t, "-b + zz", 0, api.ErrType, 1)
	mustCheck(t, "zz + -b", 0, api.ErrVar, 0)
	mustCheck(t, "i + b == zz", 0, api.ErrType, 2)
	mustCheck(t, "i + j == b", 0, api.ErrType, 4)
	mustCheck(t, "i + (j == b)", 0, api.ErrType, 3)
	mustCheck(t, "i + (j == 2)", 0, api.ErrType, 4)
	mustCheck(t, "not (i < s) and len(b)", 0, api.ErrType, 2)
	mustCheck(t, "not (i < j) and len(b)", 0, api.ErrType, 5)
	mustCheck(t, "not (i < j) and len(t)", 0, api.ErrType, 6)
	mustCheck(t, "false and zz", 0, api.ErrVar, 1)
	mustCheck(t, "true or 1", 0, api.ErrType, 2)
	mustCheck(t, "1 / 0", api.Int, api.OK, -1)
	mustCheck(t, "i < j < i", 0, api.ErrType, 4)
	mustCheck(t, "i < j == b", api.Bool, api.OK, -1)
	mustCheck(t, "-i * j % 3 >= len(s + t) and not c or b != c", api.Bool, api.OK, -1)
	mustCheck(t, `s + "x" + t`, api.Text, api.OK, -1)
}

// P10.3: variables that may not be are ErrArg, whether they are asked for or not.
func TestCheckOfWrongDecls(t *testing.T) {
	for _, l := range [][]api.Decl{
		{has("", api.Int)}, {has("and", api.Int)}, {has("len", api.Text)}, {has("true", api.Bool)}, {has("A", api.Int)}, {has("1", api.Int)}, {has(times(33, "a"), api.Int)},
		{has("a", 0)}, {has("a", 4)}, {has("a", -1)}, {has("a", math.MaxInt)}, {has("a", math.MinInt)},
		{has("a", api.Int), has("a", api.Int)}, {has("a", api.Int), has("b", api.Int), has("a", api.Text)}, {has("b", api.Bool), has("a", api.Int), has("c", 4)}, {has("b", api.Bool), has("b", 9)},
	} {
		for _, s := range []string{"1", "a", "zz", "1 + true"} {
			if kind, err, at := expr.Check(parsed(t, s), l); kind != 0 || err != api.ErrArg || at != -1 {
				t.Errorf("Check(%q, %v): %d, %d at %d", s, l, kind, err, at)
			}
		}
	}
}

// P10.3: variables needn't rise, and may be more than a list of values has.
func TestCheckOfManyDecls(t *testing.T) {
	var l []api.Decl
	for i := range 1000 {
		l = append(l, has("v"+times(i%30, "x")+string(rune('a'+i/30%26))+string(rune('a'+i/780)), api.Int))
	}
	l = append(l, has(times(32, "a"), api.Text))
	if kind, err, at := expr.Check(name(times(32, "a")), l); kind != api.Text || err != api.OK || at != -1 {
		t.Errorf("%d, %d at %d", kind, err, at)
	}
	if kind, err, at := expr.Check(name("a"), nil); kind != 0 || err != api.ErrVar || at != 0 {
		t.Errorf("%d, %d at %d", kind, err, at)
	}
}
