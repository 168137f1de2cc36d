package run_test

import (
	"slices"
	"strings"
	"testing"

	"wherry/api"
	"wherry/run"
)

// some are keys and cells, among them keys that others begin with.
func some() []api.Change {
	return []api.Change{
		is("a", "1"), is("aa", ""), none("ab"), is("b", "2"), is("b\x00", "3"), none("c"),
		is("key/10", "4"), is("key/9", long(300)), is("z", "5"), is("\x80", "6"), is("\xff", "7"),
	}
}

// asked are keys to ask of: there, between, below and above all, too long for a
// key.
func asked() []string {
	l := []string{"", "\x00", "A", "`", "a\x00", "aaa", "aab", "abc", "b\x00\x00", "b\x01", "bb", "key", "key/", "key/1", "key/100", "y", "zz", "{", "\x7f", "\x80\x00", "\xfe", "\xff\x00", "\xff\xff"}
	l = append(l, long(64), long(65), long(5000), strings.Repeat("\xff", 64), strings.Repeat("\xff", 100), strings.Repeat("\x00", 100))
	for _, c := range some() {
		l = append(l, c.K)
	}
	return l
}

// ways are the same keys and cells in runs of several blocks and of one.
func ways(t *testing.T) map[string]*run.Run {
	t.Helper()
	var alone [][]api.Change
	for _, c := range some() {
		alone = append(alone, []api.Change{c})
	}
	built := func(block int) *run.Run {
		b, err := run.Build(block, over(some()...))
		if err != api.OK {
			t.Fatal(err)
		}
		return open(t, "built", b)
	}
	return map[string]*run.Run{
		"blocks of 64": built(64), "blocks of 4096": built(4096), "one key a block": open(t, "alone", runOf(alone...)),
		"two blocks": open(t, "two", runOf(some()[:4], some()[4:])), "one block": open(t, "one", runOf(some())),
	}
}

// P7.3: Get of keys that are there and of others.
func TestGet(t *testing.T) {
	for what, r := range ways(t) {
		for _, k := range asked() {
			i := slices.IndexFunc(some(), func(c api.Change) bool { return c.K == k })
			want := api.Cell{}
			if i >= 0 {
				want = some()[i].Cell
			}
			for range 2 {
				if c, has := r.Get(k); c != want || has != (i >= 0) {
					t.Errorf("%s: Get(%q): %v %t", what, k, c, has)
				}
			}
		}
	}
}

// P7.3: a key that is Gone is there, with its cell.
func TestGetGone(t *testing.T) {
	r := open(t, "gone", runOf([]api.Change{none("a"), is("b", "")}))
	if c, has := r.Get("a"); c != (api.Cell{Gone: true}) || !has {
		t.Error(c, has)
	}
	if c, has := r.Get("b"); c != (api.Cell{}) || !has {
		t.Error(c, has)
	}
	if c, has := r.Get("c"); c != (api.Cell{}) || has {
		t.Error(c, has)
	}
}

// P7.3: From of keys that are there, between, below and above all.
func TestFrom(t *testing.T) {
	for what, r := range ways(t) {
		for _, k := range asked() {
			var want []api.Change
			for _, c := range some() {
				if c.K >= k {
					want = append(want, c)
				}
			}
			s := r.From(k)
			for _, time := range []string{"first", "again", "once more"} {
				if got := told(s); !slices.Equal(got, want) {
					t.Errorf("%s, %s: From(%q): %v", what, time, k, got)
				}
			}
		}
	}
}

// P7.3: a range may be left at each key, and ranged over again.
func TestFromLeft(t *testing.T) {
	for what, r := range ways(t) {
		s := r.From("aa")
		want := some()[1:]
		for at := range want {
			var got []api.Change
			for k, c := range s {
				got = append(got, api.Change{K: k, Cell: c})
				if len(got) == at+1 {
					break
				}
			}
			if !slices.Equal(got, want[:at+1]) {
				t.Errorf("%s, left at %d: %v", what, at, got)
			}
			calls := 0
			s(func(string, api.Cell) bool {
				calls++
				return calls <= at
			})
			if calls != at+1 {
				t.Errorf("%s, left at %d: asked %d times", what, at, calls)
			}
		}
		if got := told(s); !slices.Equal(got, want) {
			t.Errorf("%s, behind all that: %v", what, got)
		}
	}
}

// P7.3: ranges within one another, and calls within a range, do no harm.
func TestFromWithin(t *testing.T) {
	for what, r := range ways(t) {
		s := r.From("b")
		var got []api.Change
		for k, c := range s {
			got = append(got, api.Change{K: k, Cell: c})
			if inner := told(s); !slices.Equal(inner, some()[3:]) {
				t.Errorf("%s, within: %v", what, inner)
			}
			if inner := told(r.From("")); !slices.Equal(inner, some()) {
				t.Errorf("%s, another within: %v", what, inner)
			}
			if g, has := r.Get(k); g != c || !has {
				t.Errorf("%s, Get within: %v %t", what, g, has)
			}
		}
		if !slices.Equal(got, some()[3:]) {
			t.Errorf("%s, around: %v", what, got)
		}
	}
}

// P7.3: how many keys and blocks there are: those that are Gone count.
func TestLenAndBlocks(t *testing.T) {
	for _, x := range []struct {
		blocks [][]api.Change
		keys   int
	}{
		{nil, 0},
		{[][]api.Change{{is("", "")}}, 1},
		{[][]api.Change{{none("a")}}, 1},
		{[][]api.Change{{none("a"), none("b")}, {none("c")}}, 3},
		{[][]api.Change{{is("a", "")}, {is("b", "")}, {is("c", "")}}, 3},
		{whole(), 6},
	} {
		r := open(t, "blocks", runOf(x.blocks...))
		if r.Len() != x.keys || r.Blocks() != len(x.blocks) {
			t.Errorf("%v: %d keys, %d blocks", x.blocks, r.Len(), r.Blocks())
		}
	}
}

// P7.3: a run without keys.
func TestRunOfNothing(t *testing.T) {
	r := open(t, "nothing", runOf())
	for _, k := range asked() {
		if c, has := r.Get(k); c != (api.Cell{}) || has {
			t.Errorf("Get(%q): %v %t", k, c, has)
		}
		if l := told(r.From(k)); len(l) > 0 {
			t.Errorf("From(%q): %v", k, l)
		}
	}
}

// P7.2 and R1: a nil run, and one that Open didn't give: nothing, false, 0.
func TestNilRun(t *testing.T) {
	for what, r := range map[string]*run.Run{"nil": nil, "zero": {}} {
		for _, k := range []string{"", "a", long(65)} {
			if c, has := r.Get(k); c != (api.Cell{}) || has {
				t.Errorf("%s: Get(%q): %v %t", what, k, c, has)
			}
			s := r.From(k)
			if s == nil {
				t.Fatalf("%s: nil can't be ranged over", what)
			}
			if l := told(s); len(l) > 0 {
				t.Errorf("%s: From(%q): %v", what, k, l)
			}
		}
		if r.Len() != 0 || r.Blocks() != 0 {
			t.Errorf("%s: %d keys, %d blocks", what, r.Len(), r.Blocks())
		}
	}
}

// R4: runs don't know of one another, though they be of the same bytes.
func TestRunsApart(t *testing.T) {
	b := runOf(whole()...)
	first, second := open(t, "first", b), open(t, "second", b)
	other := open(t, "other", runOf([]api.Change{is("a", "another"), is("q", "")}))
	mustHold(t, "first", first, 3, slices.Concat(whole()...)...)
	mustHold(t, "other", other, 1, is("a", "another"), is("q", ""))
	mustHold(t, "second", second, 3, slices.Concat(whole()...)...)
	if _, err := run.Open(b[:9]); err != api.ErrForm {
		t.Error(err)
	}
	mustHold(t, "first, behind one that is none", first, 3, slices.Concat(whole()...)...)
}
