package expr_test

import (
	"fmt"
	"strings"
	"testing"

	"wherry/api"
	"wherry/expr"
)

// P10.1: 512 bytes are read, 513 refused at 0, whatever they are.
func TestParseLongest(t *testing.T) {
	mustParse(t, "1"+times(511, " "), n(1))
	mustParse(t, times(511, "\n")+"1", n(1))
	mustParse(t, `"`+times(510, "a")+`"`, val(text(times(510, "a"))))
	mustRefuse(t, "1"+times(512, " "), api.ErrLong, 0)
	mustRefuse(t, times(512, "\n")+"1", api.ErrLong, 0)
	mustRefuse(t, `"`+times(511, "a")+`"`, api.ErrLong, 0)
	mustRefuse(t, "$"+times(512, "1"), api.ErrLong, 0)
	mustRefuse(t, times(513, "$"), api.ErrLong, 0)
	mustRefuse(t, times(100000, "("), api.ErrLong, 0)
	mustRefuse(t, times(512, "$"), api.ErrSyntax, 0)
	mustRefuse(t, times(512, "1"), api.ErrSyntax, 0)
	mustRefuse(t, "a"+times(510, " ")+"$", api.ErrSyntax, 511)
}

// P10.1: nothing, and blanks alone, end where an operand would begin.
func TestParseNothing(t *testing.T) {
	mustRefuse(t, "", api.ErrSyntax, 0)
	for count := range 513 {
		mustRefuse(t, times(count, " "), api.ErrSyntax, count)
	}
	mustRefuse(t, " \t\n", api.ErrSyntax, 3)
	mustRefuse(t, "1 + \t ", api.ErrSyntax, 6)
	mustRefuse(t, "( 1\n", api.ErrSyntax, 4)
}

// P10.1: blanks are spaces, tabs and line feeds; each other byte begins a token,
// or none.
func TestParseEachByte(t *testing.T) {
	for c := range 256 {
		s := string([]byte{byte(c)})
		switch {
		case strings.Contains(" \t\n", s):
			mustRefuse(t, s, api.ErrSyntax, 1)
			mustParse(t, s+"1"+s+"+"+s+"2"+s, sum(n(1), n(2)))
			mustRefuse(t, "1"+s+"1", api.ErrSyntax, 2)
			mustParse(t, "a<"+s+"b", two(api.XLt, name("a"), name("b")))
			mustRefuse(t, "a<"+s+"=b", api.ErrSyntax, 3)
		case '0' <= c && c <= '9':
			mustParse(t, s, n(int64(c-'0')))
			mustParse(t, "a"+s, name("a"+s))
		case 'a' <= c && c <= 'z':
			mustParse(t, s, name(s))
			mustParse(t, "a"+s, name("a"+s))
			mustRefuse(t, "1"+s, api.ErrSyntax, 1)
		case strings.Contains("(-", s):
			mustRefuse(t, s, api.ErrSyntax, 1)
		default:
			mustRefuse(t, s, api.ErrSyntax, 0)
			mustRefuse(t, " "+s, api.ErrSyntax, 1)
			mustRefuse(t, "1 + "+s+" 2", api.ErrSyntax, 4)
		}
	}
	mustParse(t, "a_", name("a_"))
	mustRefuse(t, "_a", api.ErrSyntax, 0)
	mustRefuse(t, "1_", api.ErrSyntax, 1)
}

// P10.1: each token is as long as it can be, and needs no blank behind it.
func TestParseTokensTogether(t *testing.T) {
	a, b := name("a"), name("b")
	for _, o := range operators() {
		if o.level > 2 {
			mustParse(t, "a"+o.s+"b", two(o.op, a, b))
			mustParse(t, "1"+o.s+`"b"`, two(o.op, n(1), val(text("b"))))
			mustParse(t, "a"+o.s+"-b", two(o.op, a, neg(b)))
			mustParse(t, "(a)"+o.s+"(b)", two(o.op, a, b))
		}
		mustParse(t, `"a"`+o.s+`"b"`, two(o.op, val(text("a")), val(text("b"))))
	}
	mustParse(t, "--1", neg(neg(n(1))))
	mustParse(t, "1--1", two(api.XSub, n(1), neg(n(1))))
	mustParse(t, "not-1", not(neg(n(1))))
	mustParse(t, "-not(a)", neg(not(a)))
	mustParse(t, `not"a"`, not(val(text("a"))))
	mustParse(t, "len(a)", length(a))
	mustParse(t, "len\n(\ta )", length(a))
	mustParse(t, "1and 2", two(api.XAnd, n(1), n(2)))
	for _, s := range []string{"nota", "not1", "lena", "andb", "truefalse", "or_", "true1", "a1b2_"} {
		mustParse(t, s, name(s))
	}
	for s, at := range map[string]int{
		"1a": 1, "0x1": 1, "1 2": 2, "a b": 2, `a"b"`: 1, `"a""b"`: 3, `"a"b`: 3, `"a"1`: 3, "1(2)": 1, "a(b)": 1, "(a)(b)": 3, "(a)b": 3,
		"a=b": 1, "a = = b": 2, "a===b": 3, "a!b": 1, "!a": 0, "a<==b": 3, "a<>b": 2, "a=<b": 1, "a<<b": 2, "a>>b": 2, "a**b": 2, "a//b": 2, "a++b": 2, "+a": 0,
		"1.5": 1, "a.b": 1, "a,b": 1, "a&&b": 1, "1e5": 1, "A": 0, "aB": 1, "a\rb": 1, "'a'": 0, "a\x00": 1, "a\xc3": 1, "\u00e9": 0, "a\u2028b": 1, "true false": 5, "not not": 7, "1 not 2": 2, "1 len(a)": 2,
	} {
		mustRefuse(t, s, api.ErrSyntax, at)
	}
}

// P10.1: a number is 0, or doesn't begin with 0 and is at most 2^63 - 1; any other
// row of digits is none, at its first byte.
func TestParseNumbers(t *testing.T) {
	for s, want := range map[string]int64{
		"0": 0, "1": 1, "9": 9, "10": 10, "100": 100, "1234567890": 1234567890, "2147483648": 1 << 31, "4611686018427387904": 1 << 62,
		"9223372036854775806": 1<<63 - 2, "9223372036854775807": 1<<63 - 1,
	} {
		mustParse(t, s, n(want))
		mustParse(t, "-"+s, neg(n(want)))
	}
	for _, s := range []string{
		"00", "01", "000", "007", "0123", "09223372036854775807", "9223372036854775808", "9223372036854775809", "9223372036854775810", "9999999999999999999", "10000000000000000000",
		"18446744073709551615", "18446744073709551616", "18446744073709551617", "36893488147419103233", times(500, "0"), times(500, "9"), "1" + times(499, "0"),
	} {
		mustRefuse(t, s, api.ErrSyntax, 0)
		mustRefuse(t, "1 + "+s, api.ErrSyntax, 4)
		mustRefuse(t, "a "+s, api.ErrSyntax, 2)
		mustRefuse(t, "-"+s+"$", api.ErrSyntax, 1)
	}
}

// P10.1: a text has one way to write each byte.
func TestParseEachByteOfAText(t *testing.T) {
	for c := range 256 {
		b := string([]byte{byte(c)})
		plain := 32 <= c && c <= 126
		hex := fmt.Sprintf(`\x%02x`, c)
		ways := map[string]bool{b: plain && b != `"` && b != `\`, `\` + b: b == `"` || b == `\`, hex: !plain}
		for way, right := range ways {
			if b == `"` && way == b {
				mustRefuse(t, `"a"b"`, api.ErrSyntax, 3)
			} else if b == `\` && way == b {
				mustRefuse(t, `"a\b"`, api.ErrSyntax, 0)
			} else if s := `"a` + way + `b"`; right {
				mustParse(t, s, val(text("a"+b+"b")))
			} else {
				mustRefuse(t, s, api.ErrSyntax, 0)
				mustRefuse(t, "a + "+s, api.ErrSyntax, 4)
			}
		}
		upper := strings.ToUpper(hex[2:])
		if upper != hex[2:] {
			mustRefuse(t, `"\x`+upper+`"`, api.ErrSyntax, 0)
		}
		mustRefuse(t, `"\X`+hex[2:]+`"`, api.ErrSyntax, 0)
		if !strings.Contains("0123456789abcdef", b) {
			mustRefuse(t, `"\x`+b+`0"`, api.ErrSyntax, 0)
			mustRefuse(t, `"\x0`+b+`"`, api.ErrSyntax, 0)
		}
	}
}

// P10.1: texts, and those that are cut off.
func TestParseTexts(t *testing.T) {
	mustParse(t, `""`, val(text("")))
	mustParse(t, `"a b"`, val(text("a b")))
	mustParse(t, `"\\\""`, val(text(`\"`)))
	mustParse(t, `"\\x41"`, val(text(`\x41`)))
	mustParse(t, `"\x00\x1f\x7f\x80\xff"`, val(text("\x00\x1f\x7f\x80\xff")))
	mustParse(t, `"'and(1+"`, val(text("'and(1+")))
	mustParse(t, `"a"+"b"`, sum(val(text("a")), val(text("b"))))
	for _, s := range []string{`"abc"`, `"\""`, `"\\"`, `"\x00"`, `"a\"b\\c\xffd"`} {
		for i := 1; i < len(s); i++ {
			mustRefuse(t, s[:i], api.ErrSyntax, 0)
			mustRefuse(t, "1 == "+s[:i], api.ErrSyntax, 5)
		}
	}
	for _, s := range []string{`"`, `"\"`, `"\\\"`, `"\x"`, `"\x0"`, `"\x0g"`, `"\x 0"`, `"\x+1"`, `"\x0_"`, `"\n"`, `"\t"`, `"\u0041"`, `"\101"`, `"\0"`, "\"\n\"", "\"\t\"", "\"\x7f\"", "\"é\"", `"\x20"`, `"\x7e"`, `"\x22"`, `"\x5c"`} {
		mustRefuse(t, s, api.ErrSyntax, 0)
		mustRefuse(t, "("+s, api.ErrSyntax, 1)
	}
	mustRefuse(t, "\"a\n\" $", api.ErrSyntax, 0)
}

// P10.1: a word is a name of at most 32 bytes, or one of six, of which each has
// its place.
func TestParseWords(t *testing.T) {
	mustParse(t, times(32, "l"), name(times(32, "l")))
	mustParse(t, "a"+times(31, "_"), name("a"+times(31, "_")))
	mustParse(t, "a"+times(31, "9"), name("a"+times(31, "9")))
	for _, s := range []string{times(33, "l"), "a" + times(32, "_"), "a" + times(32, "9"), times(500, "x"), "not" + times(30, "a")} {
		mustRefuse(t, s, api.ErrSyntax, 0)
		mustRefuse(t, "1 "+s, api.ErrSyntax, 2)
		mustRefuse(t, "not "+s, api.ErrSyntax, 4)
	}
	mustParse(t, "true", val(truth(1)))
	mustParse(t, "false", val(truth(0)))
	mustRefuse(t, "and", api.ErrSyntax, 0)
	mustRefuse(t, "or", api.ErrSyntax, 0)
	mustRefuse(t, "not", api.ErrSyntax, 3)
	mustRefuse(t, "len", api.ErrSyntax, 3)
	for s, at := range map[string]int{
		"and 1": 0, "1 or or 2": 5, "1 and or 2": 6, "1 or": 4, "1 and ": 6, "not and": 4, "a not b": 2, "a true": 2, "len a": 4, "len len(a)": 4, "len (": 5, "len ()": 5, "len (a": 6, "len (a b": 7, "len(a))": 6, "len - (a)": 4, "len \"a\"": 4, "(len)": 4, "-": 1, "- and": 2, "- )": 2,
	} {
		mustRefuse(t, s, api.ErrSyntax, at)
	}
}

// P10.1: of two operators the one of the higher level binds more; of one level the
// left one.
func TestParseLevels(t *testing.T) {
	a, b, c := name("a"), name("b"), name("c")
	for _, o := range operators() {
		mustParse(t, "a "+o.s+" b", two(o.op, a, b))
		mustParse(t, "- a "+o.s+" b", two(o.op, neg(a), b))
		mustParse(t, "not a "+o.s+" not b", two(o.op, not(a), not(b)))
		mustParse(t, "-(a "+o.s+" b)", neg(two(o.op, a, b)))
		mustParse(t, "not (a "+o.s+" b)", not(two(o.op, a, b)))
		mustParse(t, "len(a "+o.s+" b)", length(two(o.op, a, b)))
		mustParse(t, "len(a) "+o.s+" b", two(o.op, length(a), b))
		for _, q := range operators() {
			want := two(q.op, two(o.op, a, b), c)
			if q.level > o.level {
				want = two(o.op, a, two(q.op, b, c))
			}
			mustParse(t, "a "+o.s+" b "+q.s+" c", want)
			mustParse(t, "(a "+o.s+" b) "+q.s+" c", two(q.op, two(o.op, a, b), c))
			mustParse(t, "a "+o.s+" (b "+q.s+" c)", two(o.op, a, two(q.op, b, c)))
		}
	}
}

// P10.1: operators of all levels, down and up again.
func TestParseAllLevels(t *testing.T) {
	up := two(api.XOr, n(1), two(api.XAnd, n(2), two(api.XLt, n(3), two(api.XSub, n(4), two(api.XMod, n(5), n(6))))))
	mustParse(t, "1 or 2 and 3 < 4 - 5 % 6", up)
	down := two(api.XOr, two(api.XAnd, two(api.XGe, two(api.XAdd, two(api.XDiv, n(1), n(2)), n(3)), n(4)), n(5)), n(6))
	mustParse(t, "1 / 2 + 3 >= 4 and 5 or 6", down)
	mustParse(t, "1 - 2 - 3 - 4", two(api.XSub, two(api.XSub, two(api.XSub, n(1), n(2)), n(3)), n(4)))
	mustParse(t, "1 < 2 < 3 == 4", two(api.XEq, two(api.XLt, two(api.XLt, n(1), n(2)), n(3)), n(4)))
	mustParse(t, "1 * 2 + 3 * 4", sum(two(api.XMul, n(1), n(2)), two(api.XMul, n(3), n(4))))
	mustParse(t, "((((1))))", n(1))
	mustParse(t, "-(-(1))", neg(neg(n(1))))
}

// P10.1: the parts of an expr, written out.
func TestParseParts(t *testing.T) {
	mustParse(t, `a * -2 == len("x")`, api.Expr{
		{Op: api.XVar, A: -1, B: -1, V: api.Value{Kind: api.Text, S: "a"}},
		{Op: api.XValue, A: -1, B: -1, V: api.Value{Kind: api.Int, N: 2}},
		{Op: api.XNeg, A: 1, B: -1},
		{Op: api.XMul, A: 0, B: 2},
		{Op: api.XValue, A: -1, B: -1, V: api.Value{Kind: api.Text, S: "x"}},
		{Op: api.XLen, A: 4, B: -1},
		{Op: api.XEq, A: 3, B: 5},
	})
	mustParse(t, `true or (false)`, api.Expr{
		{Op: api.XValue, A: -1, B: -1, V: api.Value{Kind: api.Bool, N: 1}},
		{Op: api.XValue, A: -1, B: -1, V: api.Value{Kind: api.Bool}},
		{Op: api.XOr, A: 0, B: 1},
	})
}

// P10.1: brackets that are missing, too many, or hold nothing.
func TestParseBrackets(t *testing.T) {
	for s, at := range map[string]int{
		"(": 1, ")": 0, "()": 1, "( )": 2, "(1": 2, "1)": 1, "((1)": 4, "(1))": 3, "(1 + )": 5, "( + 1)": 2, ")1(": 0, "(1 2)": 3, "1 + ()": 5, "(1)(2)": 3, "-()": 2, "not ()": 5, "len()": 4, "len(1": 5, "len 1)": 4, "(1 + 2": 6, "1 + 2)": 5, "1 + (2 * (3 - 4)": 16, "(a == b": 7, "(a or b))": 8,
	} {
		mustRefuse(t, s, api.ErrSyntax, at)
	}
}

// nests are texts that open an operand each, and what closes it.
func nests() [][2]string {
	return [][2]string{{"-", ""}, {"not ", ""}, {"(", ")"}, {"len(", ")"}, {" - ", " "}, {"1+(", ")"}, {"2*(", "==3)"}}
}

// P10.1: where an operand would begin within 20 others there is ErrLong, whatever
// the token, if it is one.
func TestParseNests(t *testing.T) {
	for _, w := range nests() {
		inside := func(count int, s string) string { return times(count, w[0]) + s + times(count, w[1]) }
		for count := range 20 {
			if _, err, at := expr.Parse(inside(count, "1")); err != api.OK || at != 0 {
				t.Errorf("%q, %d times: %d at %d", w[0], count, err, at)
			}
		}
		at := 20 * len(w[0])
		for _, s := range []string{"1", "a", `"a"`, "true", ")", "+", "and", "len", "==", "-1", "(1)", "not a", "1 $", "(((("} {
			mustRefuse(t, inside(20, s), api.ErrLong, at)
		}
		mustRefuse(t, times(20, w[0]), api.ErrLong, at)
		mustRefuse(t, times(20, w[0])+" \t", api.ErrLong, at+2)
		for _, s := range []string{"$", "00", "9223372036854775808", `"a`, `"\x41"`, "= ", "! ", times(33, "a"), "A"} {
			mustRefuse(t, inside(20, s), api.ErrSyntax, at)
		}
		mustRefuse(t, inside(19, "$"), api.ErrSyntax, 19*len(w[0]))
		mustRefuse(t, inside(19, ")"), api.ErrSyntax, 19*len(w[0]))
		mustRefuse(t, times(19, w[0]), api.ErrSyntax, 19*len(w[0]))
	}
	mustRefuse(t, times(21, "-")+"1", api.ErrLong, 20)
	mustRefuse(t, times(512, "("), api.ErrLong, 20)
}

// P10.1: operands that have ended nest no others.
func TestParseNestsEnd(t *testing.T) {
	deep := times(19, "(") + "1" + times(19, ")")
	for _, s := range []string{deep + "+" + deep, "-1 - -" + deep[1:len(deep)-1], "len(" + deep[1:len(deep)-1] + ")*" + deep, deep + " and not true or " + deep} {
		if _, err, at := expr.Parse(s); err != api.OK {
			t.Errorf("%q: %d at %d", s, err, at)
		}
	}
	mustRefuse(t, deep+"+-"+deep, api.ErrLong, 60)
	mustRefuse(t, "("+deep+")", api.ErrLong, 20)
	mustRefuse(t, times(19, "(")+"1+-2"+times(19, ")"), api.ErrLong, 22)
	mustRefuse(t, times(19, "(")+"1+len(2)"+times(19, ")"), api.ErrLong, 25)
	mixed := "-not(len(" + times(15, "-") + "1))"
	if _, err, _ := expr.Parse(mixed); err != api.OK {
		t.Errorf("%q: %d", mixed, err)
	}
	mustRefuse(t, "-not(len("+times(16, "-")+"1))", api.ErrLong, 9+16)
}

// P10.1: 100 parts are read; behind the last token of the 101st the next one is
// refused, if it is a token.
func TestParseMostParts(t *testing.T) {
	ones := "1" + times(49, "+1") // 99 parts
	mustParse(t, ones, chain(50))
	mustParse(t, "-"+ones, parsedParts(t, "-"+ones, 100))
	mustParse(t, "-("+ones+")", neg(chain(50)))
	mustRefuse(t, ones+"+1", api.ErrLong, 101)
	mustRefuse(t, ones+"+1 ", api.ErrLong, 102)
	mustRefuse(t, ones+"+1)", api.ErrLong, 101)
	mustRefuse(t, ones+"+1 2", api.ErrLong, 102)
	mustRefuse(t, ones+"+1 $", api.ErrSyntax, 102)
	mustRefuse(t, ones+"+1 00", api.ErrSyntax, 102)
	mustRefuse(t, ones+"+1+", api.ErrLong, 101)
	mustRefuse(t, ones+"+1 and", api.ErrLong, 102)
	// A product isn't done with its first operand, and its second one is the 101st part.
	mustRefuse(t, ones+"+1*2 $", api.ErrSyntax, 104)
	mustRefuse(t, ones+"+1*2 ;", api.ErrSyntax, 104)
	mustRefuse(t, ones+"+1*2 -3", api.ErrLong, 104)
	mustRefuse(t, ones+"+1*", api.ErrSyntax, 102)
	mustRefuse(t, ones+"+1*)", api.ErrSyntax, 102)
	mustRefuse(t, ones+"+", api.ErrSyntax, 100)
	mustRefuse(t, ones+")", api.ErrSyntax, 99)
	mustRefuse(t, ones+"$", api.ErrSyntax, 99)
}

// parsedParts are a text's parts, of which there are so many.
func parsedParts(t *testing.T, s string, count int) api.Expr {
	t.Helper()
	x := parsed(t, s)
	if len(x) != count {
		t.Errorf("%q: %d parts", s, len(x))
	}
	return x
}

// P10.1: the last token of each kind of part, where it would be the 101st.
func TestParsePartsEnd(t *testing.T) {
	ones := "1" + times(48, "+1") // 97 parts
	full := "-" + ones + "+"      // 98, and what comes, and the sum
	mustParse(t, full+"1", parsedParts(t, full+"1", 100))
	mustRefuse(t, full+"-1", api.ErrLong, 101)
	mustRefuse(t, full+"-1 $", api.ErrSyntax, 102)
	mustRefuse(t, full+"-(1)", api.ErrLong, 103)
	mustRefuse(t, full+"(-1)", api.ErrLong, 103)
	mustRefuse(t, full+"(--1)", api.ErrLong, 103)
	mustRefuse(t, full+"len(1)", api.ErrLong, 105)
	mustRefuse(t, full+"len(1) $", api.ErrSyntax, 106)
	mustRefuse(t, full+"len(1", api.ErrSyntax, 104)
	mustRefuse(t, full+"len(-1", api.ErrSyntax, 105)
	mustRefuse(t, full+"len(--1", api.ErrLong, 106)
	mustRefuse(t, full+"(1+2", api.ErrLong, 103)
	mustRefuse(t, full+"(1+2)", api.ErrLong, 103)
	mustRefuse(t, full+"(1+(2))", api.ErrLong, 105)
	mustRefuse(t, full+"(1+2*", api.ErrSyntax, 104)
	mustRefuse(t, full+"1*2*3", api.ErrLong, 102)
	mustParse(t, full+"(1)", parsed(t, full+"1"))
}

// P10.1: of several wrongs the first one from the left is told.
func TestParseFirstWrong(t *testing.T) {
	deep := times(20, "-")
	ones := "1" + times(49, "+1")
	mustRefuse(t, "1 + ) $", api.ErrSyntax, 4)
	mustRefuse(t, "1 $ )", api.ErrSyntax, 2)
	mustRefuse(t, "1 2 "+deep+"1", api.ErrSyntax, 2)
	mustRefuse(t, deep+"1 2", api.ErrLong, 20)
	mustRefuse(t, deep[1:]+"1 2 "+deep+"1", api.ErrSyntax, 21)
	mustRefuse(t, ones+" 2+"+deep, api.ErrSyntax, 100)
	mustRefuse(t, ones+"+1 2", api.ErrLong, 102)
	mustRefuse(t, ones+"-"+deep, api.ErrLong, 120)
	mustRefuse(t, "$"+ones+ones, api.ErrSyntax, 0)
	mustRefuse(t, `) "`, api.ErrSyntax, 0)
	mustRefuse(t, `1 + 00 + "`, api.ErrSyntax, 4)
}
