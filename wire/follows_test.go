package wire_test

import (
	"math"
	"slices"
	"strings"
	"testing"

	"wherry/api"
	"wherry/wire"
)

// form is a way to write and read one kind of things: read tells whether the
// thing at i is what is read, again writes what is read from bytes.
type form struct {
	name  string
	count int
	write func(i int) string
	read  func(r *wire.Reader, i int) bool
	again func(r *wire.Reader) string
}

func forms() []form {
	us, is, ts, ls := someUints(), someInts(), someTexts(), someLists()
	const noEnd = math.MaxInt
	return []form{
		{"Uint", len(us),
			func(i int) string { return wire.Uint(us[i]) },
			func(r *wire.Reader, i int) bool { return r.Uint() == us[i] },
			func(r *wire.Reader) string { return wire.Uint(r.Uint()) }},
		{"Int", len(is),
			func(i int) string { return wire.Int(is[i]) },
			func(r *wire.Reader, i int) bool { return r.Int() == is[i] },
			func(r *wire.Reader) string { return wire.Int(r.Int()) }},
		{"Text", len(ts),
			func(i int) string { return wire.Text(ts[i]) },
			func(r *wire.Reader, i int) bool { return r.Text(len(ts[i])) == ts[i] },
			func(r *wire.Reader) string { return wire.Text(r.Text(noEnd)) }},
		{"List", len(ls),
			func(i int) string { return wire.List(ls[i]) },
			func(r *wire.Reader, i int) bool { return slices.Equal(r.List(len(ls[i]), noEnd), ls[i]) },
			func(r *wire.Reader) string { return wire.List(r.List(noEnd, noEnd)) }},
	}
}

// P1.5: what was written is read, whatever follows.
func TestWrittenIsRead(t *testing.T) {
	for _, f := range forms() {
		for i := range f.count {
			for _, behind := range []string{"", "\x00", "\x01", "\x7f", "\x80", "\xff\xff", "\x80\x00", strings.Repeat("\xff", 11)} {
				r := wire.Read(f.write(i) + behind)
				if !f.read(r, i) || r.Err() != api.OK || r.Left() != len(behind) {
					t.Errorf("%s %d, %x behind it: %d, left %d", f.name, i, behind, r.Err(), r.Left())
				}
			}
		}
	}
}

// P1.5: no beginning of a number, text or list is one.
func TestNoBeginningIsOne(t *testing.T) {
	for _, f := range forms() {
		for i := range f.count {
			b := f.write(i)
			step := 1 + len(b)/500
			for n := 0; n < len(b); n += step {
				r := wire.Read(b[:n])
				f.again(r)
				if r.Err() != api.ErrMore || r.Left() != n {
					t.Errorf("%s %d, %d bytes: %d, left %d", f.name, i, n, r.Err(), r.Left())
				}
			}
		}
	}
}

// rows calls yield with all rows of at most most of these bytes behind start.
func rows(start string, some string, most int, yield func(s string)) {
	yield(start)
	if most == 0 {
		return
	}
	for i := range len(some) {
		rows(start+some[i:i+1], some, most-1, yield)
	}
}

// P1.5: no number, text or list has two forms: what is read, written again, is
// just the bytes that were taken.
func TestNoTwoForms(t *testing.T) {
	const some = "\x00\x01\x02\x7f\x80\x81\xff"
	for _, f := range forms() {
		check := func(s string) {
			r := wire.Read(s)
			b := f.again(r)
			if r.Err() == api.OK && s[:len(s)-r.Left()] != b {
				t.Errorf("%s: %x is read of %x", f.name, b, s)
			}
		}
		rows("", some, 6, check)
		rows(strings.Repeat("\x80", 7), some, 5, check)
		rows(strings.Repeat("\xff", 8), some, 4, check)
	}
}

// P1.3, P1.5: a number is read of just the rows that the words allow.
func TestNumbersByTheWords(t *testing.T) {
	const some = "\x00\x01\x02\x7f\x80\x81\xff"
	check := func(s string) {
		r := wire.Read(s)
		r.Uint()
		if want := whyNoNumber(s); r.Err() != want {
			t.Errorf("%x: %d, not %d", s, r.Err(), want)
		}
	}
	rows("", some, 6, check)
	rows(strings.Repeat("\x80", 6), some, 6, check)
}

// whyNoNumber is the error of a row of bytes, told byte by byte from the left.
func whyNoNumber(s string) api.Errno {
	for i := 0; ; i++ {
		switch {
		case i == len(s):
			return api.ErrMore
		case i == 9 && s[i] > 1, i > 0 && s[i] == 0:
			return api.ErrForm
		case s[i] < 128:
			return api.OK
		}
	}
}
