package wire_test

import (
	"math"
	"slices"
	"strings"
	"testing"

	"wherry/api"
	"wherry/wire"
)

// calls are the calls that read; each tells whether it answered a zero value.
func calls() map[string]func(r *wire.Reader) bool {
	return map[string]func(r *wire.Reader) bool{
		"Uint": func(r *wire.Reader) bool { return r.Uint() == 0 },
		"Int":  func(r *wire.Reader) bool { return r.Int() == 0 },
		"Byte": func(r *wire.Reader) bool { return r.Byte() == 0 },
		"Text": func(r *wire.Reader) bool { return r.Text(math.MaxInt) == "" },
		"List": func(r *wire.Reader) bool { return len(r.List(math.MaxInt, math.MaxInt)) == 0 },
	}
}

// P1.2: calls take their bytes one behind the other.
func TestReadsInOrder(t *testing.T) {
	r := wire.Read("\xac\x02\x01\x02ab\x02\x01x\x00Z\x05")
	if r.Left() != 12 || r.Err() != api.OK || r.End() != api.ErrForm {
		t.Error(r.Left(), r.Err(), r.End())
	}
	if v := r.Uint(); v != 300 || r.Left() != 10 {
		t.Error(v, r.Left())
	}
	if v := r.Int(); v != -1 || r.Left() != 9 {
		t.Error(v, r.Left())
	}
	if s := r.Text(2); s != "ab" || r.Left() != 6 {
		t.Error(s, r.Left())
	}
	if l := r.List(2, 1); !slices.Equal(l, []string{"x", ""}) || r.Left() != 2 {
		t.Error(l, r.Left())
	}
	if b := r.Byte(); b != 'Z' || r.Left() != 1 || r.End() != api.ErrForm {
		t.Error(b, r.Left(), r.End())
	}
	if v := r.Int(); v != -3 || r.Left() != 0 || r.End() != api.OK || r.Err() != api.OK {
		t.Error(v, r.Left(), r.End(), r.Err())
	}
}

// P1.2 and R4: readers of the same bytes have places of their own.
func TestReadersApart(t *testing.T) {
	a, b := wire.Read("\x01\x02"), wire.Read("\x01\x02")
	a.Byte()
	a.Byte()
	a.Byte()
	if b.Left() != 2 || b.Err() != api.OK || b.Byte() != 1 {
		t.Error(b.Left(), b.Err())
	}
}

// P1.2: a wrong reader stays so, tells nothing, and takes no bytes.
func TestWrongReader(t *testing.T) {
	for _, x := range []struct {
		what, s string
		spoil   func(r *wire.Reader)
		err     api.Errno
		left    int
	}{
		{"Uint's form", "\x07\x80\x00\x01\x01\x01", func(r *wire.Reader) { r.Uint() }, api.ErrForm, 5},
		{"Int's form", "\x07\x80\x00\x01\x01\x01", func(r *wire.Reader) { r.Int() }, api.ErrForm, 5},
		{"Uint's end", "\x07\x80\x80", func(r *wire.Reader) { r.Uint() }, api.ErrMore, 2},
		{"Byte's end", "\x07", func(r *wire.Reader) { r.Byte() }, api.ErrMore, 0},
		{"Text too long", "\x07\x02ab\x01", func(r *wire.Reader) { r.Text(1) }, api.ErrLong, 4},
		{"Text's end", "\x07\x05ab\x01", func(r *wire.Reader) { r.Text(5) }, api.ErrMore, 4},
		{"too many", "\x07\x02\x01a\x01b\x01", func(r *wire.Reader) { r.List(1, 1) }, api.ErrLong, 6},
		{"List's second too long", "\x07\x02\x01a\x02bc\x01", func(r *wire.Reader) { r.List(2, 1) }, api.ErrLong, 7},
		{"List's end", "\x07\x02\x01a", func(r *wire.Reader) { r.List(2, 1) }, api.ErrMore, 3},
	} {
		r := wire.Read(x.s)
		r.Byte()
		x.spoil(r)
		for name, call := range calls() {
			if r.Err() != x.err || r.End() != x.err || r.Left() != x.left {
				t.Errorf("%s: ahead of %s: %d %d %d", x.what, name, r.Err(), r.End(), r.Left())
			}
			if !call(r) {
				t.Errorf("%s: %s tells something", x.what, name)
			}
		}
		if r.Err() != x.err || r.Left() != x.left {
			t.Errorf("%s: %d %d", x.what, r.Err(), r.Left())
		}
	}
}

// P1.2: the call that makes a reader wrong tells nothing itself.
func TestCallThatCannot(t *testing.T) {
	bad := "\xff\xff\xff\xff\xff\xff\xff\xff\xff\x02"
	for name, call := range calls() {
		r := wire.Read("")
		if !call(r) || r.Err() != api.ErrMore {
			t.Errorf("%s of nothing: %d", name, r.Err())
		}
		r = wire.Read(bad)
		if name != "Byte" && (!call(r) || r.Err() != api.ErrForm || r.Left() != len(bad)) {
			t.Errorf("%s of no number: %d", name, r.Err())
		}
	}
}

// P1.2 and R1: a nil reader.
func TestNilReader(t *testing.T) {
	var r *wire.Reader
	for name, call := range calls() {
		if !call(r) {
			t.Errorf("%s tells something", name)
		}
	}
	if r.Text(-1) != "" || len(r.List(-1, -1)) != 0 {
		t.Error("told something")
	}
	if r.Left() != 0 || r.Err() != api.ErrArg || r.End() != api.ErrArg {
		t.Error(r.Left(), r.Err(), r.End())
	}
}

// P1.3: which bytes are a number.
func TestUintForms(t *testing.T) {
	nine := strings.Repeat("\xff", 9)
	for _, x := range []struct {
		s   string
		v   uint64
		err api.Errno
	}{
		{"\x00", 0, api.OK},
		{"\x7f", 127, api.OK},
		{"\x80\x01", 128, api.OK},
		{"\xac\x02", 300, api.OK},
		{strings.Repeat("\x80", 9) + "\x01", 1 << 63, api.OK},
		{nine + "\x01", math.MaxUint64, api.OK},
		{"", 0, api.ErrMore},
		{"\x80", 0, api.ErrMore},
		{nine, 0, api.ErrMore},
		{"\x80\x00", 0, api.ErrForm},
		{"\x81\x00", 0, api.ErrForm},
		{"\x80\x80\x00", 0, api.ErrForm},
		{nine + "\x00", 0, api.ErrForm},
		{nine + "\x02", 0, api.ErrForm},
		{nine + "\x7f", 0, api.ErrForm},
		{nine + "\x80", 0, api.ErrForm},
		{nine + "\x81", 0, api.ErrForm},
		{nine + "\x80\x00", 0, api.ErrForm},
		{nine + "\x81\x01", 0, api.ErrForm},
		{strings.Repeat("\x80", 300), 0, api.ErrForm},
	} {
		r := wire.Read(x.s)
		left := 0
		if x.err != api.OK {
			left = len(x.s)
		}
		if v := r.Uint(); v != x.v || r.Err() != x.err || r.Left() != left {
			t.Errorf("%x: %d, %d, left %d", x.s, v, r.Err(), r.Left())
		}
	}
}

// P1.3: Int is Uint's of a number with a sign.
func TestIntForms(t *testing.T) {
	nine := strings.Repeat("\xff", 9)
	for _, x := range []struct {
		s   string
		v   int64
		err api.Errno
	}{
		{"\x00", 0, api.OK},
		{"\x01", -1, api.OK},
		{"\x02", 1, api.OK},
		{"\x7f", -64, api.OK},
		{"\x80\x01", 64, api.OK},
		{"\xfe" + nine[1:] + "\x01", math.MaxInt64, api.OK},
		{nine + "\x01", math.MinInt64, api.OK},
		{"", 0, api.ErrMore},
		{"\x81", 0, api.ErrMore},
		{"\x81\x00", 0, api.ErrForm},
		{nine + "\x03", 0, api.ErrForm},
	} {
		r := wire.Read(x.s)
		if v := r.Int(); v != x.v || r.Err() != x.err {
			t.Errorf("%x: %d, %d", x.s, v, r.Err())
		}
	}
}

// P1.3: a byte is any byte.
func TestByte(t *testing.T) {
	for b := range 256 {
		r := wire.Read(string([]byte{byte(b)}))
		if got := r.Byte(); got != byte(b) || r.End() != api.OK {
			t.Errorf("%d: %d, %d", b, got, r.End())
		}
		if r.Byte() != 0 || r.Err() != api.ErrMore {
			t.Errorf("behind %d: %d", b, r.Err())
		}
	}
}

// P1.3: texts, and which error comes ahead of which.
func TestTextForms(t *testing.T) {
	huge := wire.Uint(math.MaxUint64)
	for _, x := range []struct {
		s    string
		most int
		want string
		err  api.Errno
	}{
		{"\x00", 0, "", api.OK},
		{"\x02ab", 2, "ab", api.OK},
		{"\x02abc", math.MaxInt, "ab", api.OK},
		{"\x05a", 9, "", api.ErrMore},
		{"\x05a", 4, "", api.ErrLong},
		{"\x05a", 5, "", api.ErrMore},
		{"\x01", 1, "", api.ErrMore},
		{"\x01a", 0, "", api.ErrLong},
		{"\x00", -1, "", api.ErrLong},
		{"\x01a", math.MinInt, "", api.ErrLong},
		{"", -1, "", api.ErrMore},
		{"\x80", -1, "", api.ErrMore},
		{"\x80\x00", -1, "", api.ErrForm},
		{"\x81\x00a", 1, "", api.ErrForm},
		{huge + "a", math.MaxInt, "", api.ErrLong},
		{wire.Uint(math.MaxInt64) + "a", math.MaxInt, "", api.ErrMore},
		{wire.Uint(1<<63) + "a", math.MaxInt, "", api.ErrLong},
		{wire.Uint(1<<32+1) + "a", 1, "", api.ErrLong},
		{wire.Uint(1<<32+1) + "a", math.MaxInt, "", api.ErrMore},
	} {
		r := wire.Read(x.s)
		if s := r.Text(x.most); s != x.want || r.Err() != x.err {
			t.Errorf("%x by Text(%d): %q, %d", x.s, x.most, s, r.Err())
		}
	}
}

// P1.3: lists, and which error comes ahead of which.
func TestListForms(t *testing.T) {
	for _, x := range []struct {
		s          string
		many, most int
		want       []string
		err        api.Errno
	}{
		{"\x00", 0, 0, nil, api.OK},
		{"\x00", 0, -1, nil, api.OK},
		{"\x02\x01a\x00", 2, 1, []string{"a", ""}, api.OK},
		{"\x01\x01ab", math.MaxInt, math.MaxInt, []string{"a"}, api.OK},
		{"\x00", -1, 9, nil, api.ErrLong},
		{"", -1, 9, nil, api.ErrMore},
		{"\x80\x00", -1, 9, nil, api.ErrForm},
		{"\x02\x01a\x01b", 1, 9, nil, api.ErrLong},
		{"\x02", 1, 9, nil, api.ErrLong},
		{"\x02", 2, 9, nil, api.ErrMore},
		{"\x02\x01a\x05b", 5, 9, nil, api.ErrMore},
		{"\x02\x01a\x05b", 5, 4, nil, api.ErrLong},
		{"\x02\x01a\x80\x00", 5, 4, nil, api.ErrForm},
		{"\x02\x05a\x80\x00", 5, 4, nil, api.ErrLong},
		{"\x01\x00", 1, -1, nil, api.ErrLong},
		{wire.Uint(math.MaxUint64) + "\x00\x00", math.MaxInt, 9, nil, api.ErrLong},
		{wire.Uint(math.MaxInt64) + "\x00\x00", math.MaxInt, 9, nil, api.ErrMore},
	} {
		r := wire.Read(x.s)
		if l := r.List(x.many, x.most); !slices.Equal(l, x.want) || r.Err() != x.err {
			t.Errorf("%x by List(%d, %d): %q, %d", x.s, x.many, x.most, l, r.Err())
		}
	}
}

// P1.3 and R3: two lists share no memory, their spare room neither.
func TestListsApart(t *testing.T) {
	r := wire.Read("\x03\x01a\x01b\x01c\x03\x01d\x01e\x01f")
	a, b := r.List(3, 1), r.List(3, 1)
	a[0] = "x"
	a = append(a, "y")
	if !slices.Equal(b, []string{"d", "e", "f"}) || len(a) != 4 || r.End() != api.OK {
		t.Errorf("%q %q %d", a, b, r.End())
	}
}

// P1.4: Err and End.
func TestErrAndEnd(t *testing.T) {
	r := wire.Read("")
	if r.Err() != api.OK || r.End() != api.OK {
		t.Error(r.Err(), r.End())
	}
	r = wire.Read("\x01\x80\x00")
	if r.Err() != api.OK || r.End() != api.ErrForm || r.Err() != api.OK {
		t.Error("bytes that are left make no reader wrong")
	}
	if r.Uint() != 1 || r.Err() != api.OK {
		t.Error(r.Err())
	}
	if r.Text(0) != "" || r.Err() != api.ErrForm || r.End() != api.ErrForm {
		t.Error(r.Err(), r.End())
	}
	r = wire.Read("\x05abc")
	if r.Text(9) != "" || r.End() != api.ErrMore {
		t.Error("End is Err, though bytes are left")
	}
	r = wire.Read("\x05abc")
	if r.Text(4) != "" || r.End() != api.ErrLong || r.Err() != api.ErrLong {
		t.Error(r.End(), r.Err())
	}
}
