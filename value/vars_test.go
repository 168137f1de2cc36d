package value_test

import (
	"fmt"
	"slices"
	"strings"
	"testing"

	"wherry/api"
	"wherry/value"
	"wherry/wire"
)

// mustVars holds a list to its variables.
func mustVars(t *testing.T, what string, got []api.Var, want ...api.Var) {
	t.Helper()
	if !slices.Equal(got, want) {
		t.Errorf("%s: %v, want %v", what, got, want)
	}
}

// names are texts that are names, noNames some that aren't.
func names() []string {
	l := []string{"a", "z", "m", "a0", "a9", "a_", "a_9", "zz", "a__", "l0_0", long(31), long(32), "a" + strings.Repeat("_", 31), "z" + strings.Repeat("9", 31)}
	for _, word := range words() {
		l = append(l, word+"s", word+"0", word+"_", "x"+word, word+word)
		if len(word) > 1 {
			l = append(l, word[:len(word)-1], word[1:])
		}
	}
	return l
}

func noNames() []string {
	l := []string{"", "0", "9", "_", "0a", "9a", "1a", "_a", "A", "Z", "Aa", "Zz", "aA", "aZ", "a-b", "a b", " a", "a ", "a\x00", "\x00", "\x00a", "a.", "a\n", "é", "aé", "a\xff", "\xffa", "And", "a!", "a/", "a:", "a@", "a[", "a^", "a`", "a{", "`", "{", "ſ", "aK", long(33), long(34), long(1000), "a" + strings.Repeat("_", 32)}
	return append(l, words()...)
}

// words are the six that are no names.
func words() []string { return []string{"and", "or", "not", "true", "false", "len"} }

// P9.1: names.
func TestNamed(t *testing.T) {
	for _, s := range names() {
		if !value.Named(s) {
			t.Errorf("%q is no name", s)
		}
	}
	for _, s := range noNames() {
		if value.Named(s) {
			t.Errorf("%q is a name", s)
		}
	}
}

// P9.1: each byte, as the first one, as another one and as the last of 32.
func TestNamedOfEachByte(t *testing.T) {
	for b := range 256 {
		c := string([]byte{byte(b)})
		first := strings.Contains("abcdefghijklmnopqrstuvwxyz", c)
		other := first || strings.Contains("0123456789_", c)
		for _, x := range []struct {
			s    string
			want bool
		}{{c, first}, {c + "x", first}, {c + long(31), first}, {"x" + c, other}, {"x" + c + "x", other}, {long(31) + c, other}} {
			if value.Named(x.s) != x.want {
				t.Errorf("%q: %t", x.s, !x.want)
			}
		}
	}
}

// rightLists are lists of variables that are right, wrongLists some that aren't.
func rightLists() map[string][]api.Var {
	all := []api.Var{}
	for i, v := range good()[:16] {
		all = append(all, is(fmt.Sprintf("k%02d", i), v))
	}
	return map[string][]api.Var{
		"nil": nil, "none": {}, "one": vars("x"), "two": vars("a", "x"), "three": vars("a", "aa", "b"),
		"by bytes": vars("a", "a0", "a9", "a_", "aa", "b"), "longest names": vars("a", long(31), long(32), "m"),
		"longest texts": {is("a", text(long(1024))), is("b", text(long(1024)))},
		"kinds":         {is("a", text("x")), is("b", num(-1)), is("c", truth(1)), is("d", num(5))},
		"15":            many(15), "16": many(16), "16 kinds": all,
	}
}

func wrongLists() map[string][]api.Var {
	m := map[string][]api.Var{
		"17": many(17), "18": many(18), "300": many(300), "17 of one name": slices.Repeat(vars("a"), 17),
		"the same": vars("a", "a"), "the same last": vars("a", "b", "c", "c"), "the same and apart": vars("a", "b", "a"),
		"fall": vars("x", "a"), "fall last": vars("a", "c", "b"), "fall first": vars("b", "a", "c"), "not by bytes": vars("a_", "a0"), "longer first": vars("aa", "a"),
		"an empty variable": {{}}, "16 and one of them none": append(many(15), is("z", api.Value{})),
	}
	for _, s := range noNames() {
		m[fmt.Sprintf("the name %.40q", s)] = vars(s)
		m[fmt.Sprintf("the name %.40q behind", s)] = []api.Var{is("a", num(1)), is(s, num(2))}
	}
	for i, v := range bad() {
		m[fmt.Sprintf("value %d: %s", i, tell(v))] = []api.Var{is("a", v)}
		m[fmt.Sprintf("value %d: %s, between", i, tell(v))] = []api.Var{is("a", num(1)), is("b", v), is("c", num(3))}
	}
	return m
}

// P9.1: which variables are right.
func TestRight(t *testing.T) {
	for what, l := range rightLists() {
		if !value.Right(l) {
			t.Errorf("%s: not right", what)
		}
	}
	for what, l := range wrongLists() {
		if value.Right(l) {
			t.Errorf("%s: right", what)
		}
	}
}

// P9.2: variables' bytes, written out.
func TestVarsBytesWrittenOut(t *testing.T) {
	for _, x := range []struct {
		l    []api.Var
		want string
	}{
		{nil, "\x00"}, {[]api.Var{}, "\x00"}, {vars("x"), "\x01\x01x\x01\x02"},
		{[]api.Var{is("a", num(2)), is("x", num(3))}, "\x02\x01a\x01\x04\x01x\x01\x06"},
		{[]api.Var{is("ab", text("xy")), is("b", truth(1)), is("c", text(""))}, "\x03\x02ab\x03\x02xy\x01b\x02\x02\x01c\x03\x00"},
	} {
		if b := value.VarsBytes(x.l); b != x.want {
			t.Errorf("%v: %x, want %x", x.l, b, x.want)
		}
	}
}

// P9.2: variables' bytes as the words say; of those that aren't right there are
// none.
func TestVarsBytes(t *testing.T) {
	for what, l := range rightLists() {
		want := uintBytes(uint64(len(l)))
		for _, x := range l {
			want += textBytes(x.Name) + value.Bytes(x.V)
		}
		if b := value.VarsBytes(l); b != want {
			t.Errorf("%s: %x, want %x", what, b, want)
		}
	}
	for what, l := range wrongLists() {
		if b := value.VarsBytes(l); b != "" {
			t.Errorf("%s: %x", what, b)
		}
	}
}

// mustNotTakeVars holds TakeVars to false, beside which there is nothing.
func mustNotTakeVars(t *testing.T, what string, r *wire.Reader) {
	t.Helper()
	if l, ok := value.TakeVars(r); ok || len(l) != 0 {
		t.Errorf("%s: %v %t", what, l, ok)
	}
}

// P9.3: what are no variables that are right isn't taken.
func TestTakeVarsRefuses(t *testing.T) {
	one := "\x01\x06"
	for what, b := range map[string]string{
		"nothing": "", "one, and none there": "\x01", "a count cut off": "\x80", "a count of two forms": "\x81\x00" + varBytes("a", one),
		"2^64 - 1":     uintBytes(1<<64-1) + varBytes("a", one),
		"2^64 of none": strings.Repeat("\x80", 9) + "\x02",
		"2^32":         uintBytes(1<<32) + varBytes("a", one),
		"no name":      "\x01" + varBytes("", one), "a word": "\x01" + varBytes("and", one), "a great letter": "\x01" + varBytes("A", one),
		"33 bytes of name": "\x01" + varBytes(long(33), one), "1025 bytes of text": "\x01" + varBytes("a", "\x03"+textBytes(long(1025))),
		"another kind": "\x01" + varBytes("a", "\x04\x06"), "no kind": "\x01" + varBytes("a", "\x00"), "a Bool of 2": "\x01" + varBytes("a", "\x02\x04"), "a Bool of -1": "\x01" + varBytes("a", "\x02\x01"),
		"the same": "\x02" + varBytes("a", one) + varBytes("a", one), "fall": "\x02" + varBytes("x", one) + varBytes("a", one),
		"fall last":           "\x03" + varBytes("a", one) + varBytes("c", one) + varBytes("b", one),
		"the last is none":    "\x03" + varBytes("a", one) + varBytes("b", one) + varBytes("c", "\x04"),
		"a name of two forms": "\x01\x81\x00a" + one,
	} {
		mustNotTakeVars(t, what, wire.Read(b))
	}
	for _, n := range []int{17, 18, 200} {
		b := uintBytes(uint64(n))
		for _, x := range many(n) {
			b += varBytes(x.Name, value.Bytes(x.V))
		}
		mustNotTakeVars(t, fmt.Sprintf("%d variables", n), wire.Read(b))
	}
	for i, v := range noNames() {
		mustNotTakeVars(t, fmt.Sprintf("name %d: %.40q", i, v), wire.Read("\x01"+varBytes(v, one)))
	}
}

// P9.3: the longest names and texts and the most variables are taken.
func TestTakeVarsOfTheMost(t *testing.T) {
	b, want := "\x10", []api.Var{}
	for i := range 16 {
		name := fmt.Sprintf("%s%02d", long(30), i)
		b += varBytes(name, "\x03"+textBytes(long(1024)))
		want = append(want, is(name, text(long(1024))))
	}
	if l, ok := value.TakeVars(wire.Read(b)); !ok || !slices.Equal(l, want) {
		t.Errorf("%t, %d variables", ok, len(l))
	}
}

// P9.3: variables are taken from where the reader is, and leave it behind them.
func TestTakeVarsOneBehindTheOther(t *testing.T) {
	b := "\x07" + value.VarsBytes(vars("a", "b")) + value.VarsBytes(nil) + value.Bytes(num(5)) + value.VarsBytes(vars("a"))
	r := wire.Read(b + "behind")
	r.Byte()
	two, ok2 := value.TakeVars(r)
	none, ok0 := value.TakeVars(r)
	mustTake(t, "between", r, num(5))
	one, ok1 := value.TakeVars(r)
	mustVars(t, "two", two, vars("a", "b")...)
	mustVars(t, "none", none)
	mustVars(t, "one", one, vars("a")...)
	if !ok2 || !ok0 || !ok1 || r.Left() != len("behind") || r.Err() != api.OK {
		t.Errorf("%t %t %t, left %d, error %d", ok2, ok0, ok1, r.Left(), r.Err())
	}
}

// P9.3 and R1: of a reader that is nil or wrong already nothing is taken, no
// variables neither.
func TestTakeVarsOfWrongReaders(t *testing.T) {
	for what, r := range wrongReaders() {
		err := r.Err()
		mustNotTakeVars(t, what, r)
		if r.Err() != err {
			t.Errorf("%s: %d, it was %d", what, r.Err(), err)
		}
	}
}

// mustPut holds Put to a list, and that to being right.
func mustPut(t *testing.T, what string, l []api.Var, name string, v api.Value, want ...api.Var) []api.Var {
	t.Helper()
	got, err := value.Put(l, name, v)
	if err != api.OK {
		t.Errorf("%s: %d", what, err)
	}
	mustVars(t, what, got, want...)
	if !value.Right(got) {
		t.Errorf("%s: %v isn't right", what, got)
	}
	return got
}

// mustNotPut holds Put to an error, beside which there is nothing.
func mustNotPut(t *testing.T, what string, l []api.Var, name string, v api.Value, want api.Errno) {
	t.Helper()
	if got, err := value.Put(l, name, v); len(got) != 0 || err != want {
		t.Errorf("%s: %d variables, error %d, want %d", what, len(got), err, want)
	}
}

// P9.5: a new name ahead of all, between and behind all, and one that is there.
func TestPut(t *testing.T) {
	b, d, f := is("b", num(1)), is("d", text("x")), is("f", truth(1))
	l := []api.Var{b, d, f}
	v := text("new")
	mustPut(t, "into nil", nil, "a", v, is("a", v))
	mustPut(t, "into none", []api.Var{}, "a", v, is("a", v))
	mustPut(t, "ahead", l, "a", v, is("a", v), b, d, f)
	mustPut(t, "between", l, "c", v, b, is("c", v), d, f)
	mustPut(t, "between the last", l, "e", v, b, d, is("e", v), f)
	mustPut(t, "behind", l, "g", v, b, d, f, is("g", v))
	mustPut(t, "the first", l, "b", v, is("b", v), d, f)
	mustPut(t, "the second", l, "d", v, b, is("d", v), f)
	mustPut(t, "the last", l, "f", v, b, d, is("f", v))
	mustPut(t, "the same value", l, "d", text("x"), b, d, f)
	mustPut(t, "by bytes", l, "b0", v, b, is("b0", v), d, f)
	mustPut(t, "by bytes, behind", vars("a0", "aa"), "a_", v, is("a0", num(1)), is("a_", v), is("aa", num(2)))
	mustPut(t, "longest", nil, long(32), text(long(1024)), is(long(32), text(long(1024))))
}

// P9.5: what may not be put.
func TestPutRefuses(t *testing.T) {
	for what, l := range wrongLists() {
		mustNotPut(t, what, l, "x", num(1), api.ErrArg)
	}
	for what, l := range rightLists() {
		for _, s := range noNames() {
			mustNotPut(t, fmt.Sprintf("%s, the name %.40q", what, s), l, s, num(1), api.ErrArg)
		}
		for _, v := range bad() {
			mustNotPut(t, fmt.Sprintf("%s, %s", what, tell(v)), l, "x", v, api.ErrArg)
		}
	}
}

// P9.5: with MaxVars variables only one of these names may be put; an argument
// that may not be is told ahead of that.
func TestPutWhenFull(t *testing.T) {
	full := many(16)
	for i, x := range full {
		want := slices.Clone(full)
		want[i].V = text("new")
		mustPut(t, x.Name, full, x.Name, text("new"), want...)
	}
	for _, name := range []string{"a", "v01", "v15", "v29", "v31", "z"} {
		mustNotPut(t, name, full, name, num(1), api.ErrFull)
	}
	mustNotPut(t, "no name", full, "Z", num(1), api.ErrArg)
	mustNotPut(t, "no value", full, "z", truth(2), api.ErrArg)
	mustNotPut(t, "17", many(17), "z", num(1), api.ErrArg)
	mustNotPut(t, "17, of a name that is there", many(17), "v00", num(1), api.ErrArg)
	mustPut(t, "the 16th", many(15), "z", num(1), append(many(15), is("z", num(1)))...)
}

// P9.5 and R3: the list that was handed in is as it was, its spare room too, and
// what came out shares nothing with it.
func TestPutLeavesItsArgument(t *testing.T) {
	for _, name := range []string{"a", "b", "c", "d", "e"} {
		room := vars("b", "d", "spare", "spare")
		l := room[:2]
		got, err := value.Put(l, name, num(9))
		if err != api.OK {
			t.Errorf("%s: %d", name, err)
		}
		mustVars(t, name, room, vars("b", "d", "spare", "spare")...)
		all := got[:cap(got)]
		for i := range all {
			all[i] = is("written", num(7))
		}
		mustVars(t, name+", then written into", room, vars("b", "d", "spare", "spare")...)
	}
	l := vars("b", "d")
	one, _ := value.Put(l, "c", num(9))
	two, _ := value.Put(l, "c", num(9))
	one[0].Name = "written"
	mustVars(t, "another answer", two, is("b", num(1)), is("c", num(9)), is("d", num(2)))
}

// P9.1, P9.2 and R3: what is asked of a list leaves it as it was.
func TestAskingLeavesTheList(t *testing.T) {
	for what, l := range rightLists() {
		room := append(slices.Clone(l), is("spare", num(1)))
		was := slices.Clone(room)
		value.Right(room[:len(l)])
		value.VarsBytes(room[:len(l)])
		value.Get(room[:len(l)], "x")
		mustVars(t, what, room, was...)
	}
}

// mustGet holds Get to a value.
func mustGet(t *testing.T, what string, l []api.Var, name string, want api.Value) {
	t.Helper()
	if v, ok := value.Get(l, name); !ok || v != want {
		t.Errorf("%s: %s %t, want %s", what, tell(v), ok, tell(want))
	}
}

// mustNotGet holds Get to false, beside which there is nothing.
func mustNotGet(t *testing.T, what string, l []api.Var, name string) {
	t.Helper()
	if v, ok := value.Get(l, name); ok || v != (api.Value{}) {
		t.Errorf("%s: %s %t", what, tell(v), ok)
	}
}

// P9.5: the value of a name that is there, and nothing of one that isn't.
func TestGet(t *testing.T) {
	for what, l := range rightLists() {
		for _, x := range l {
			mustGet(t, what+" "+x.Name, l, x.Name, x.V)
		}
		for _, s := range []string{"", "q", "A", "and", "a\x00", long(33)} {
			mustNotGet(t, what+" "+s, l, s)
		}
	}
	mustNotGet(t, "a longer one", vars("ab"), "a")
	mustNotGet(t, "a shorter one", vars("a"), "ab")
	mustNotGet(t, "another case", vars("ab"), "aB")
}

// P9.5: Get of a list that isn't right: the first one that has the name, though
// it is no name, or its value may not be.
func TestGetOfWrongLists(t *testing.T) {
	mustGet(t, "falls", vars("x", "m", "a"), "x", num(1))
	mustGet(t, "falls, the last", vars("x", "m", "a"), "a", num(3))
	mustGet(t, "twice", vars("a", "b", "a"), "a", num(1))
	mustGet(t, "twice, behind", vars("c", "b", "a", "b", "a"), "b", num(2))
	mustGet(t, "twice at once", vars("a", "b", "b", "b", "c"), "b", num(2))
	mustGet(t, "17 of one name", slices.Concat(vars("z"), slices.Repeat([]api.Var{is("a", num(5))}, 17)), "a", num(5))
	mustGet(t, "the 40th", many(40), "v78", num(39))
	mustGet(t, "no name", vars("a", "", "and"), "", num(2))
	mustGet(t, "a word", vars("a", "", "and"), "and", num(3))
	mustGet(t, "no value", []api.Var{is("a", api.Value{Kind: 7, N: 3, S: "s"})}, "a", api.Value{Kind: 7, N: 3, S: "s"})
	mustGet(t, "the zero value", []api.Var{is("a", api.Value{})}, "a", api.Value{})
	mustNotGet(t, "falls, and isn't there", vars("x", "m", "a"), "b")
	mustNotGet(t, "empty", vars("x", "m", "a"), "")
}
