package mail_test

import (
	"math"
	"reflect"
	"strings"
	"testing"

	"wherry/api"
	"wherry/mail"
)

// send is a command of which every field says something of the name that it is given.
func send(name string) api.Send {
	n := uint64(len(name)) + uint64(name[0])<<8
	return api.Send{To: -int(n), R: api.Record{
		Class: int(n + 1), Kind: int(n + 2), From: n + 3, Time: int64(n + 4),
		Key: n + 5, Key2: 1<<63 + n, Key3: n + 6, N: -int64(n), M: int64(n + 7),
		A: name, B: name + "b", C: name + "c",
		Vars: []api.Var{
			{Name: name, V: api.Value{Kind: api.Text, S: name + "v"}},
			{Name: name + "x", V: api.Value{Kind: api.Int, N: int64(n)}},
		},
	}}
}

// sends are those of the names that stand in a text, with blanks between them.
func sends(names string) []api.Send {
	var l []api.Send
	for _, name := range strings.Fields(names) {
		l = append(l, send(name))
	}
	return l
}

// boxOf is a new box in which those are.
func boxOf(names string) *mail.Box {
	b := mail.New()
	b.Put(sends(names))
	return b
}

// must holds what a call answered against what it must.
func must[T any](t *testing.T, what string, got, want T) {
	t.Helper()
	if !reflect.DeepEqual(got, want) {
		t.Errorf("%s: %v, want %v", what, got, want)
	}
}

// mustSend holds a command and an error against those of a name, or of an error.
func mustSend(t *testing.T, what string, got api.Send, err api.Errno, name string, want api.Errno) {
	t.Helper()
	if must(t, what, err, want); want != api.OK {
		must(t, what, got, api.Send{})
		return
	}
	must(t, what, got, send(name))
}

// mustHave holds all that a box tells of what is in it against those of names.
func mustHave(t *testing.T, what string, b *mail.Box, names string) {
	t.Helper()
	want := sends(names)
	must(t, what+", Len", b.Len(), len(want))
	for i, w := range want {
		got, err := b.Peek(i)
		mustSend(t, what+", Peek", got, err, w.R.A, api.OK)
	}
	_, err := b.Peek(len(want))
	must(t, what+", Peek behind all", err, api.ErrNone)
	mustTell(t, what, b, names)
}

// mustTell holds what All ranges over against those of names.
func mustTell(t *testing.T, what string, b *mail.Box, names string) {
	t.Helper()
	var got []api.Send
	for i, s := range b.All() {
		must(t, what+", place", i, len(got))
		got = append(got, s)
	}
	must(t, what+", All", got, sends(names))
}

// P19.1: the chapter's example.
func TestExample(t *testing.T) {
	b := mail.New()
	must(t, "Put", b.Put(sends("a b")), 2)
	must(t, "Copy", b.Copy(0), api.OK)
	mustHave(t, "copied", b, "a b a")
	s, err := b.Take(1)
	mustSend(t, "Take", s, err, "b", api.OK)
	must(t, "Len", b.Len(), 2)
	mustHave(t, "taken", b, "a a")
}

// P19.1: each call of a nil box answers ErrArg, the zero value, 0, or ranges over nothing.
func TestNil(t *testing.T) {
	var b *mail.Box
	must(t, "Put", b.Put(sends("a b")), 0)
	must(t, "Put of nothing", b.Put(nil), 0)
	for _, i := range []int{-1, 0, 1} {
		s, err := b.Take(i)
		mustSend(t, "Take", s, err, "", api.ErrArg)
		s, err = b.Peek(i)
		mustSend(t, "Peek", s, err, "", api.ErrArg)
		must(t, "Copy", b.Copy(i), api.ErrArg)
	}
	must(t, "Len", b.Len(), 0)
	all := b.All()
	if all == nil {
		t.Fatal("nil can't be ranged over")
	}
	for i, s := range all {
		t.Errorf("All: %d %v", i, s)
	}
}

// P19.1: a new box is empty, and none has anything in common with another one.
func TestNew(t *testing.T) {
	a, b := mail.New(), mail.New()
	if a == nil || b == nil {
		t.Fatal("New: nil")
	}
	mustHave(t, "new", a, "")
	a.Put(sends("a"))
	mustHave(t, "another one", b, "")
	b.Put(sends("b"))
	mustHave(t, "the first one", a, "a")
}

// P19.1: all that is put stands behind all, in its order; how many it is is answered, not
// how many there are.
func TestPut(t *testing.T) {
	b := mail.New()
	for _, x := range []struct{ put, have string }{
		{"", ""}, {"c", "c"}, {"b a", "c b a"}, {"", "c b a"}, {"a a c", "c b a a a c"}, {"d", "c b a a a c d"},
	} {
		must(t, "Put "+x.put, b.Put(sends(x.put)), len(strings.Fields(x.put)))
		mustHave(t, "Put "+x.put, b, x.have)
	}
	must(t, "Put of no elements", b.Put([]api.Send{}), 0)
	must(t, "Put of zero values", b.Put(make([]api.Send, 2)), 2)
	s, err := b.Peek(8)
	must(t, "a zero value", err, api.OK)
	must(t, "a zero value", s, api.Send{})
}

// none are the places at which a box of so many has nothing.
func none(n int) []int {
	return []int{-1, n, n + 1, -n - 1, 1 << 32, -1 << 32, math.MinInt, math.MaxInt}
}

// P19.1: where there is no i-th, from 0 on, each call answers ErrNone, and nothing changes.
func TestNone(t *testing.T) {
	for _, names := range []string{"", "a", "a b", "a b c d e"} {
		b := boxOf(names)
		for _, i := range none(len(strings.Fields(names))) {
			s, err := b.Take(i)
			mustSend(t, "Take", s, err, "", api.ErrNone)
			s, err = b.Peek(i)
			mustSend(t, "Peek", s, err, "", api.ErrNone)
			must(t, "Copy", b.Copy(i), api.ErrNone)
			mustHave(t, "box of "+names, b, names)
		}
	}
}

// P19.1: what is taken is in the box no more, and those behind it move up; those ahead of it
// stay where they are.
func TestTake(t *testing.T) {
	for _, x := range []struct {
		have       string
		i          int
		told, left string
	}{
		{"a", 0, "a", ""},
		{"a b", 0, "a", "b"},
		{"a b", 1, "b", "a"},
		{"a b c d e", 0, "a", "b c d e"},
		{"a b c d e", 1, "b", "a c d e"},
		{"a b c d e", 2, "c", "a b d e"},
		{"a b c d e", 3, "d", "a b c e"},
		{"a b c d e", 4, "e", "a b c d"},
	} {
		b := boxOf(x.have)
		s, err := b.Take(x.i)
		mustSend(t, "Take", s, err, x.told, api.OK)
		mustHave(t, "without "+x.told, b, x.left)
		b.Put(sends("x y"))
		mustHave(t, "put behind "+x.left, b, x.left+" x y")
	}
}

// P19.1: one by one all can be taken, from the front, from behind, and from between, and
// what is put meanwhile stands behind what is left.
func TestTakeAll(t *testing.T) {
	for _, at := range []func(n int) int{
		func(int) int { return 0 },
		func(n int) int { return n - 1 },
		func(n int) int { return n / 2 },
		func(n int) int { return n / 3 },
	} {
		b, left := boxOf("a b c d e f g h"), strings.Fields("a b c d e f g h")
		for more := 3; len(left) > 0; more-- {
			i := at(len(left))
			s, err := b.Take(i)
			mustSend(t, "Take", s, err, left[i], api.OK)
			left = append(left[:i:i], left[i+1:]...)
			if more > 0 {
				b.Put(sends("x y"))
				left = append(left, "x", "y")
			}
			mustHave(t, "taken", b, strings.Join(left, " "))
		}
		s, err := b.Take(0)
		mustSend(t, "Take of an empty box", s, err, "", api.ErrNone)
		b.Put(sends("z"))
		mustHave(t, "filled again", b, "z")
	}
}

// P19.1: one more, the same, stands behind all; it outlives the taking of what it was copied
// from.
func TestCopy(t *testing.T) {
	for i, name := range []string{"a", "b", "c"} {
		b := boxOf("a b c")
		must(t, "Copy", b.Copy(i), api.OK)
		mustHave(t, "copied", b, "a b c "+name)
		must(t, "Copy of the copy", b.Copy(3), api.OK)
		mustHave(t, "copied twice", b, "a b c "+name+" "+name)
		for _, gone := range []string{"a", "b", "c"} {
			s, err := b.Take(0)
			mustSend(t, "Take", s, err, gone, api.OK)
		}
		mustHave(t, "copies", b, name+" "+name)
	}
}

// P19.1: what is peeked at stays where it is.
func TestPeek(t *testing.T) {
	b := boxOf("a b c")
	for range 2 {
		for i, name := range []string{"a", "b", "c"} {
			s, err := b.Peek(i)
			mustSend(t, "Peek", s, err, name, api.OK)
		}
	}
	mustHave(t, "peeked at", b, "a b c")
}

// P19.1: a range goes over what there is as it begins, not as it was asked for, and anew
// each time.
func TestAllAnew(t *testing.T) {
	b := mail.New()
	all := b.All()
	for _, x := range []struct {
		act  func()
		want string
	}{
		{func() {}, ""},
		{func() { b.Put(sends("a b")) }, "a b"},
		{func() { b.Copy(0) }, "a b a"},
		{func() { b.Take(0) }, "b a"},
		{func() { b.Take(1) }, "b"},
		{func() { b.Take(0) }, ""},
		{func() { b.Put(sends("c")) }, "c"},
	} {
		x.act()
		var got []api.Send
		for i, s := range all {
			must(t, "place", i, len(got))
			got = append(got, s)
		}
		must(t, "All", got, sends(x.want))
	}
}

// P19.1: what is taken, put and copied in a range's body changes the box, and nothing of
// what is ranged over.
func TestAllChanged(t *testing.T) {
	for _, x := range []struct {
		what string
		act  func(b *mail.Box, i int)
		left string
	}{
		{"taken from the front", func(b *mail.Box, i int) { b.Take(0) }, ""},
		{"taken from behind", func(b *mail.Box, i int) { b.Take(b.Len() - 1) }, ""},
		{"taken from between", func(b *mail.Box, i int) { b.Take(b.Len() / 2) }, ""},
		{"all taken at once", func(b *mail.Box, i int) {
			for b.Len() > 0 {
				b.Take(0)
			}
		}, ""},
		{"put", func(b *mail.Box, i int) { b.Put(sends("x y")) }, "a b c d x y x y x y x y"},
		{"copied", func(b *mail.Box, i int) { b.Copy(i) }, "a b c d a b c d"},
		{"taken and put", func(b *mail.Box, i int) { b.Take(0); b.Put(sends("x")) }, "x x x x"},
		{"put and taken", func(b *mail.Box, i int) { b.Put(sends("x")); b.Take(i) }, "b d x x"},
	} {
		b, i := boxOf("a b c d"), 0
		for at, s := range b.All() {
			must(t, x.what+", place", at, i)
			mustSend(t, x.what, s, api.OK, string("abcd"[i]), api.OK)
			x.act(b, i)
			i++
		}
		must(t, x.what+", how many", i, 4)
		mustHave(t, x.what, b, x.left)
	}
}

// P19.1: a range may be left in the middle, and ranged over again, within another one too.
func TestAllLeft(t *testing.T) {
	b := boxOf("a b c")
	all := b.All()
	for stop := range 3 {
		n := 0
		for i := range all {
			if n++; i == stop {
				break
			}
		}
		must(t, "left", n, stop+1)
		mustHave(t, "left", b, "a b c")
	}
	var got []string
	for _, s := range all {
		for _, u := range all {
			got = append(got, s.R.A+u.R.A)
		}
		b.Take(0)
	}
	must(t, "one in another", got, []string{"aa", "ab", "ac", "bb", "bc", "cc"})
}
