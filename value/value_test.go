package value_test

import (
	"encoding/binary"
	"fmt"
	"math"
	"strconv"
	"strings"
	"testing"

	"wherry/api"
	"wherry/value"
	"wherry/wire"
)

// num, truth and text are values of the three kinds.
func num(n int64) api.Value   { return api.Value{Kind: api.Int, N: n} }
func truth(n int64) api.Value { return api.Value{Kind: api.Bool, N: n} }
func text(s string) api.Value { return api.Value{Kind: api.Text, S: s} }

// is is a variable.
func is(name string, v api.Value) api.Var { return api.Var{Name: name, V: v} }

// vars are variables of these names, with the values 1, 2, ..
func vars(names ...string) []api.Var {
	var l []api.Var
	for i, name := range names {
		l = append(l, is(name, num(int64(i+1))))
	}
	return l
}

// many are n variables whose names rise: v00, v02, ..
func many(n int) []api.Var {
	var l []api.Var
	for i := range n {
		l = append(l, is(fmt.Sprintf("v%02d", 2*i), num(int64(i))))
	}
	return l
}

// long is a text of n bytes, and a name, if n is 1 to 32.
func long(n int) string { return strings.Repeat("l", n) }

// uintBytes, intBytes and textBytes are chapter 1's, by the library.
func uintBytes(n uint64) string      { return string(binary.AppendUvarint(nil, n)) }
func intBytes(n int64) string        { return string(binary.AppendVarint(nil, n)) }
func textBytes(s string) string      { return uintBytes(uint64(len(s))) + s }
func varBytes(name, v string) string { return textBytes(name) + v }

// good are values that may be, of all kinds, those at the edges among them.
func good() []api.Value {
	l := []api.Value{truth(0), truth(1)}
	for _, n := range []int64{0, 1, -1, 2, 3, -7, 9, 10, -10, 63, 64, -64, -65, 300, math.MaxInt32 + 1, math.MinInt64, math.MinInt64 + 1, math.MaxInt64 - 1, math.MaxInt64} {
		l = append(l, num(n))
	}
	for _, s := range []string{"", "a", "b", "ab", "0", "-1", "1", "true", "false", "?", `"`, `\`, `""`, `\"`, `\x00`, `x00`, "\x00", "\x1f", " ", "~", "\x7f", "\x80", "\xff", "\n", "a\nb", "é", "\xe9", "\u2028", `a"b`, long(127), long(128), long(1023), long(1024), strings.Repeat("\xff", 1024)} {
		l = append(l, text(s))
	}
	return l
}

// bad are values that may not be.
func bad() []api.Value {
	return []api.Value{
		{}, {N: 1}, {S: "a"}, {Kind: -1}, {Kind: 4}, {Kind: 5}, {Kind: 256 + api.Int}, {Kind: 256 + api.Text}, {Kind: math.MinInt}, {Kind: math.MaxInt},
		{Kind: api.Int, S: "a"}, {Kind: api.Int, N: 3, S: "\x00"}, {Kind: api.Int, S: long(1025)},
		{Kind: api.Bool, S: "a"}, {Kind: api.Bool, N: 1, S: "true"}, truth(2), truth(-1), truth(3), truth(math.MinInt64), truth(math.MaxInt64), truth(1 << 32), {Kind: api.Bool, N: 2, S: "a"},
		{Kind: api.Text, N: 1}, {Kind: api.Text, N: -1, S: "a"}, {Kind: api.Text, N: 1 << 32}, text(long(1025)), text(long(5000)),
	}
}

// tell names a value in what a test says of it.
func tell(v api.Value) string {
	s := v.S
	if len(s) > 40 {
		s = s[:4] + ".." + strconv.Itoa(len(s))
	}
	return fmt.Sprintf("{%d %d %q}", v.Kind, v.N, s)
}

// P9.2, P9.4, P9.5, P9.1: the chapter's examples.
func TestExamples(t *testing.T) {
	if b := value.Bytes(num(3)); b != "\x01\x06" {
		t.Errorf("Bytes(Int 3): %x", b)
	}
	if s := value.Show(text(`a"b`)); s != `"a\"b"` {
		t.Errorf(`Show(Text a"b): %s`, s)
	}
	one, err := value.Put(nil, "x", num(1))
	mustVars(t, "Put(nothing, x, 1)", one, is("x", num(1)))
	if err != api.OK {
		t.Errorf("Put(nothing, x, 1): %d", err)
	}
	two, err := value.Put(one, "a", num(2))
	mustVars(t, "Put(that, a, 2)", two, is("a", num(2)), is("x", num(1)))
	if err != api.OK {
		t.Errorf("Put(that, a, 2): %d", err)
	}
	if value.Named("and") {
		t.Error("Named(and)")
	}
}

// P9.1: which values may be.
func TestMay(t *testing.T) {
	for _, v := range good() {
		if !value.May(v) {
			t.Errorf("%s may not be", tell(v))
		}
	}
	for _, v := range bad() {
		if value.May(v) {
			t.Errorf("%s may be", tell(v))
		}
	}
}

// P9.1: of all kinds near those that are, only these three may be; each with
// just what belongs to it.
func TestMayOfEachKind(t *testing.T) {
	for kind := -300; kind <= 600; kind++ {
		for _, n := range []int64{-1, 0, 1, 2} {
			for _, s := range []string{"", "a"} {
				want := kind == api.Int && s == "" || kind == api.Bool && s == "" && (n == 0 || n == 1) || kind == api.Text && n == 0
				if v := (api.Value{Kind: kind, N: n, S: s}); value.May(v) != want {
					t.Errorf("%s: %t", tell(v), !want)
				}
			}
		}
	}
}

// P9.2: values' bytes, written out.
func TestBytesWrittenOut(t *testing.T) {
	for _, x := range []struct {
		v    api.Value
		want string
	}{
		{num(0), "\x01\x00"}, {num(3), "\x01\x06"}, {num(-1), "\x01\x01"}, {num(64), "\x01\x80\x01"},
		{num(math.MaxInt64), "\x01\xfe\xff\xff\xff\xff\xff\xff\xff\xff\x01"},
		{num(math.MinInt64), "\x01\xff\xff\xff\xff\xff\xff\xff\xff\xff\x01"},
		{truth(0), "\x02\x00"}, {truth(1), "\x02\x02"},
		{text(""), "\x03\x00"}, {text("ab"), "\x03\x02ab"}, {text("\x00"), "\x03\x01\x00"},
		{text(long(1024)), "\x03\x80\x08" + long(1024)},
	} {
		if b := value.Bytes(x.v); b != x.want {
			t.Errorf("%s: %x, want %x", tell(x.v), b, x.want)
		}
	}
}

// P9.2: values' bytes as the words say; of one that may not be there are none.
func TestBytes(t *testing.T) {
	for _, v := range good() {
		want := string([]byte{byte(v.Kind)})
		if v.Kind == api.Text {
			want += textBytes(v.S)
		} else {
			want += intBytes(v.N)
		}
		if b := value.Bytes(v); b != want {
			t.Errorf("%s: %x, want %x", tell(v), b, want)
		}
	}
	for _, v := range bad() {
		if b := value.Bytes(v); b != "" {
			t.Errorf("%s: %x", tell(v), b)
		}
	}
}

// mustTake holds Take to a value.
func mustTake(t *testing.T, what string, r *wire.Reader, want api.Value) {
	t.Helper()
	if v, ok := value.Take(r); !ok || v != want {
		t.Errorf("%s: %s %t, want %s", what, tell(v), ok, tell(want))
	}
}

// mustNotTake holds Take to false, beside which there is nothing.
func mustNotTake(t *testing.T, what string, r *wire.Reader) {
	t.Helper()
	if v, ok := value.Take(r); ok || v != (api.Value{}) {
		t.Errorf("%s: %s %t", what, tell(v), ok)
	}
}

// P9.3: what is no value isn't taken: other kinds, values that may not be, texts
// that are too long, numbers with two forms.
func TestTakeRefuses(t *testing.T) {
	for _, b := range []string{
		"", "\x00", "\x00\x00", "\x04", "\x04\x00", "\x05\x02", "\x81\x00", "\xff\x00\x00", "\x31\x06",
		"\x02\x01", "\x02\x03", "\x02\x04", "\x02\x06", "\x02\x80\x01", "\x02" + intBytes(math.MinInt64), "\x02" + intBytes(math.MaxInt64), "\x02" + intBytes(1<<32),
		"\x01", "\x01\x80", "\x01\x80\x00", "\x02\x82\x00", "\x01" + strings.Repeat("\x80", 9) + "\x02", "\x01" + strings.Repeat("\xff", 10) + "\x00",
		"\x03", "\x03\x01", "\x03\x02a", "\x03\x80\x00", "\x03" + uintBytes(math.MaxUint64) + "a",
		"\x03" + textBytes(long(1025)), "\x03" + textBytes(long(1025)) + "behind", "\x03" + textBytes(long(60000)),
	} {
		mustNotTake(t, fmt.Sprintf("%.20x", b), wire.Read(b))
	}
	for kind := range 256 {
		if kind < api.Int || kind > api.Text {
			mustNotTake(t, fmt.Sprintf("the kind %d", kind), wire.Read(string([]byte{byte(kind), 0, 0, 0})))
		}
	}
}

// P9.3: the text of MaxText bytes is taken.
func TestTakeLongest(t *testing.T) {
	mustTake(t, "1024 bytes", wire.Read("\x03\x80\x08"+long(1024)), text(long(1024)))
}

// P9.3: a value is taken from where the reader is, and leaves it behind the value.
func TestTakeOneBehindTheOther(t *testing.T) {
	b := "ahead"
	for _, v := range good() {
		b += value.Bytes(v)
	}
	r := wire.Read(b + "behind")
	for range len("ahead") {
		r.Byte()
	}
	for _, v := range good() {
		mustTake(t, tell(v), r, v)
	}
	if r.Left() != len("behind") || r.Err() != api.OK {
		t.Errorf("left %d, error %d", r.Left(), r.Err())
	}
}

// wrongReaders are readers that are wrong already, though what they have next
// would be a value, or variables.
func wrongReaders() map[string]*wire.Reader {
	byText := wire.Read("\x01\x06")
	byText.Text(-1)
	byNumber := wire.Read("\x80\x00\x01\x06")
	byNumber.Uint()
	byByte := wire.Read("")
	byByte.Byte()
	none := wire.Read("\x00")
	none.List(-1, 0)
	return map[string]*wire.Reader{"nil": nil, "a text": byText, "a number": byNumber, "a byte": byByte, "a list": none}
}

// P9.3 and R1: of a reader that is nil or wrong already nothing is taken.
func TestTakeOfWrongReaders(t *testing.T) {
	for what, r := range wrongReaders() {
		err := r.Err()
		mustNotTake(t, what, r)
		if r.Err() != err {
			t.Errorf("%s: %d, it was %d", what, r.Err(), err)
		}
	}
}

// P9.4: values' texts.
func TestShow(t *testing.T) {
	for _, x := range []struct {
		v    api.Value
		want string
	}{
		{num(0), "0"}, {num(7), "7"}, {num(-7), "-7"}, {num(-1), "-1"}, {num(10), "10"}, {num(-100), "-100"},
		{num(math.MaxInt64), "9223372036854775807"}, {num(math.MinInt64), "-9223372036854775808"},
		{truth(0), "false"}, {truth(1), "true"},
		{text(""), `""`}, {text("ab"), `"ab"`}, {text("true"), `"true"`}, {text("?"), `"?"`},
		{text(`"`), `"\""`}, {text(`\`), `"\\"`}, {text(`\"`), `"\\\""`}, {text(`a"b\c`), `"a\"b\\c"`}, {text(`'`), `"'"`},
		{text("\x00"), `"\x00"`}, {text("\x1f"), `"\x1f"`}, {text(" "), `" "`}, {text("~"), `"~"`}, {text("\x7f"), `"\x7f"`}, {text("\xff"), `"\xff"`},
		{text("\n"), `"\x0a"`}, {text("\t\r"), `"\x09\x0d"`}, {text("\x80\xab\xcd"), `"\x80\xab\xcd"`}, {text("é"), `"\xc3\xa9"`},
		{text(long(1024)), `"` + long(1024) + `"`}, {text(strings.Repeat("\x00", 1024)), `"` + strings.Repeat(`\x00`, 1024) + `"`},
	} {
		if s := value.Show(x.v); s != x.want {
			t.Errorf("%s: %s, want %s", tell(x.v), s, x.want)
		}
	}
	for _, v := range bad() {
		if s := value.Show(v); s != "?" {
			t.Errorf("%s: %s", tell(v), s)
		}
	}
}

// P9.4: each byte of a text is shown as the words say.
func TestShowEachByte(t *testing.T) {
	for b := range 256 {
		c := string([]byte{byte(b)})
		want := c
		switch {
		case c == `"` || c == `\`:
			want = `\` + c
		case b < 32 || b > 126:
			want = fmt.Sprintf(`\x%02x`, b)
		}
		if s := value.Show(text("a" + c + "z")); s != `"a`+want+`z"` {
			t.Errorf("%d: %s", b, s)
		}
	}
}

// P9.4: of values in their order, each is less than all behind it, and none
// less than itself or one ahead; the Kind counts ahead of N, N ahead of S, also
// of values that may not be.
func TestLess(t *testing.T) {
	l := []api.Value{
		{Kind: math.MinInt, N: 9, S: "z"}, {Kind: -1}, {}, {S: "a"}, {N: 1},
		num(math.MinInt64), num(-1), num(0), {Kind: api.Int, S: "a"}, num(1), num(2), num(math.MaxInt64), {Kind: api.Int, N: math.MaxInt64, S: "a"},
		truth(-1), truth(0), {Kind: api.Bool, S: "z"}, truth(1), truth(2),
		{Kind: api.Text, N: -1, S: "z"}, text(""), text("\x00"), text("A"), text("a"), text("a\x00"), text("aa"), text("b"), text("\x7f"), text("\x80"), text("é"), text("\xff"), {Kind: api.Text, N: 1}, {Kind: api.Text, N: 1, S: "a"},
		{Kind: 4}, {Kind: math.MaxInt, N: math.MinInt64},
	}
	for i, a := range l {
		for j, b := range l {
			if value.Less(a, b) != (i < j) {
				t.Errorf("Less(%s, %s): %t", tell(a), tell(b), i >= j)
			}
		}
	}
}
