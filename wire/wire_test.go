package wire_test

import (
	"math"
	"math/big"
	"slices"
	"strings"
	"testing"

	"wherry/wire"
)

// someUints are the edges of each length that a number's bytes may have.
func someUints() []uint64 {
	l := []uint64{0, 1, 2, 3, 300, math.MaxInt64, 1 << 63, math.MaxUint64 - 1, math.MaxUint64}
	for shift := 7; shift < 64; shift += 7 {
		l = append(l, 1<<shift-1, 1<<shift, 1<<shift+1)
	}
	return l
}

// someInts are numbers with a sign at the edges of each length, and both ends.
func someInts() []int64 {
	l := []int64{math.MinInt64, math.MinInt64 + 1, math.MaxInt64 - 1, math.MaxInt64}
	for _, u := range someUints() {
		l = append(l, int64(u), -int64(u))
	}
	return l
}

func someTexts() []string {
	return []string{"", "a", "ab", "\x00", "\x80\xff", "\xe2\x82", strings.Repeat("x", 127), strings.Repeat("y", 128), strings.Repeat("\x00", 20000)}
}

func someLists() [][]string {
	return [][]string{nil, {""}, {"a", ""}, {"", "", ""}, {"b", "a", "b"}, someTexts(), slices.Repeat([]string{"q"}, 128)}
}

// bytesOf are the bytes of a number as the document's words say them, with
// numbers of any size.
func bytesOf(v *big.Int) string {
	var out []byte
	for rest := new(big.Int).Set(v); ; {
		seven := byte(new(big.Int).Mod(rest, big.NewInt(128)).Int64())
		rest.Div(rest, big.NewInt(128))
		if rest.Sign() == 0 {
			return string(append(out, seven))
		}
		out = append(out, seven+128)
	}
}

// withSign is 2v or -2v - 1, as a number of any size.
func withSign(v int64) *big.Int {
	twice := new(big.Int).Mul(big.NewInt(v), big.NewInt(2))
	if v >= 0 {
		return twice
	}
	return new(big.Int).Sub(new(big.Int).Neg(twice), big.NewInt(1))
}

// P1.1: the examples, and the ends.
func TestWriteExamples(t *testing.T) {
	for _, x := range []struct{ what, got, want string }{
		{"Uint(0)", wire.Uint(0), "\x00"},
		{"Uint(127)", wire.Uint(127), "\x7f"},
		{"Uint(128)", wire.Uint(128), "\x80\x01"},
		{"Uint(300)", wire.Uint(300), "\xac\x02"},
		{"Uint(2^64-1)", wire.Uint(math.MaxUint64), "\xff\xff\xff\xff\xff\xff\xff\xff\xff\x01"},
		{"Int(0)", wire.Int(0), "\x00"},
		{"Int(-1)", wire.Int(-1), "\x01"},
		{"Int(1)", wire.Int(1), "\x02"},
		{"Int(-64)", wire.Int(-64), "\x7f"},
		{"Int(64)", wire.Int(64), "\x80\x01"},
		{"Int(2^63-1)", wire.Int(math.MaxInt64), "\xfe\xff\xff\xff\xff\xff\xff\xff\xff\x01"},
		{"Int(-2^63)", wire.Int(math.MinInt64), "\xff\xff\xff\xff\xff\xff\xff\xff\xff\x01"},
		{"Text()", wire.Text(""), "\x00"},
		{"Text(ab)", wire.Text("ab"), "\x02ab"},
		{"List(nil)", wire.List(nil), "\x00"},
		{"List()", wire.List([]string{}), "\x00"},
		{"List(a, empty)", wire.List([]string{"a", ""}), "\x02\x01a\x00"},
	} {
		if x.got != x.want {
			t.Errorf("%s: %x, not %x", x.what, x.got, x.want)
		}
	}
}

// P1.1: numbers are written as the words say.
func TestWriteNumbers(t *testing.T) {
	for _, v := range someUints() {
		if got, want := wire.Uint(v), bytesOf(new(big.Int).SetUint64(v)); got != want {
			t.Errorf("Uint(%d): %x, not %x", v, got, want)
		}
	}
	for _, v := range someInts() {
		if got, want := wire.Int(v), bytesOf(withSign(v)); got != want {
			t.Errorf("Int(%d): %x, not %x", v, got, want)
		}
	}
}

// P1.1: texts and lists are written as the words say.
func TestWriteTextsAndLists(t *testing.T) {
	for _, s := range someTexts() {
		if got, want := wire.Text(s), wire.Uint(uint64(len(s)))+s; got != want {
			t.Errorf("Text of %d bytes: %x", len(s), got)
		}
	}
	for i, l := range someLists() {
		want := wire.Uint(uint64(len(l)))
		for _, s := range l {
			want += wire.Text(s)
		}
		if got := wire.List(l); got != want {
			t.Errorf("list %d: %x, not %x", i, got, want)
		}
	}
}

// P1.1 and R3: what is handed to List isn't written into, its spare room neither.
func TestListLeavesItsArgument(t *testing.T) {
	room := []string{"a", "b", "spare"}
	wire.List(room[:2])
	if !slices.Equal(room, []string{"a", "b", "spare"}) {
		t.Errorf("%q", room)
	}
}
