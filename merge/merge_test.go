package merge_test

import (
	"iter"
	"maps"
	"slices"
	"strconv"
	"strings"
	"testing"

	"wherry/merge"
	"wherry/sorted"
)

// pair is a key and its value.
type pair[V any] struct {
	k string
	v V
}

// pairs are all that a range tells, in its order.
func pairs[V any](s iter.Seq2[string, V]) []pair[V] {
	var l []pair[V]
	for k, v := range s {
		l = append(l, pair[V]{k, v})
	}
	return l
}

// told is what a range tells, as a text: "a1 b2".
func told(s iter.Seq2[string, int]) string {
	var l []string
	for k, v := range s {
		l = append(l, k+strconv.Itoa(v))
	}
	return strings.Join(l, " ")
}

// mustTell holds a range against such a text, twice: it is gone through anew
// each time.
func mustTell(t *testing.T, what string, s iter.Seq2[string, int], want string) {
	t.Helper()
	if s == nil {
		t.Fatalf("%s: nil can't be ranged over", what)
	}
	for _, time := range []string{"first", "again"} {
		if got := told(s); got != want {
			t.Errorf("%s, %s: %q, want %q", what, time, got, want)
		}
	}
}

// over is a range over keys with blanks between them; the first one's value is
// from, and each next one's is one more.
func over(keys string, from int) iter.Seq2[string, int] {
	return func(yield func(string, int) bool) {
		for i, k := range strings.Fields(keys) {
			if !yield(k, from+i) {
				return
			}
		}
	}
}

// P3.1 to P3.3: the chapter's examples.
func TestExamples(t *testing.T) {
	ac, ab := merge.Over([]string{"a", "c"}, []int{1, 2}), merge.Over([]string{"a", "b"}, []int{3, 4})
	mustTell(t, "two", merge.Merge(ac, ab), "a1 b4 c2")
	mustTell(t, "not rising", merge.Merge(merge.Over([]string{"b", "a", "c"}, []int{1, 2, 3})), "b1 c3")
	mustTell(t, "one taken", merge.Take(merge.Over([]string{"x", "y"}, []int{1, 2}), 1), "x1")
}

// P3.1: all keys, rising, each once, with the first one's value that has it.
func TestMerge(t *testing.T) {
	for _, x := range []struct {
		what string
		l    []iter.Seq2[string, int]
		want string
	}{
		{"none", nil, ""},
		{"one", []iter.Seq2[string, int]{over("a b", 1)}, "a1 b2"},
		{"an empty one", []iter.Seq2[string, int]{over("", 1)}, ""},
		{"empty ones around", []iter.Seq2[string, int]{over("", 1), over("a b", 1), over("", 1)}, "a1 b2"},
		{"one behind the other", []iter.Seq2[string, int]{over("a b", 1), over("c d", 3)}, "a1 b2 c3 d4"},
		{"one ahead of the other", []iter.Seq2[string, int]{over("c d", 3), over("a b", 1)}, "a1 b2 c3 d4"},
		{"one within the other", []iter.Seq2[string, int]{over("a d", 1), over("b c", 3)}, "a1 b3 c4 d2"},
		{"in turns", []iter.Seq2[string, int]{over("a c e", 1), over("b d f", 4)}, "a1 b4 c2 d5 e3 f6"},
		{"the same keys", []iter.Seq2[string, int]{over("a b c", 4), over("a b c", 1)}, "a4 b5 c6"},
		{"a key of both's ends", []iter.Seq2[string, int]{over("a b", 1), over("b c", 8)}, "a1 b2 c9"},
		{"and the other way round", []iter.Seq2[string, int]{over("b c", 8), over("a b", 1)}, "a1 b8 c9"},
		{"the second and third have it", []iter.Seq2[string, int]{over("b", 1), over("a", 2), over("a", 3)}, "a2 b1"},
		{"the first and last have it", []iter.Seq2[string, int]{over("a", 1), over("b", 2), over("a", 3)}, "a1 b2"},
		{"five of them", []iter.Seq2[string, int]{over("e", 1), over("d e", 2), over("c d e", 4), over("b c d e", 7), over("a b c d e", 11)}, "a11 b7 c4 d2 e1"},
	} {
		mustTell(t, x.what, merge.Merge(x.l...), x.want)
	}
}

// P3.1: of a range whose keys don't rise, those that aren't above each one
// ahead of them count as not there: another range's has its place.
func TestMergeNotRising(t *testing.T) {
	for _, x := range []struct {
		what string
		l    []iter.Seq2[string, int]
		want string
	}{
		{"falling", []iter.Seq2[string, int]{over("c b a", 1)}, "c1"},
		{"twice the same", []iter.Seq2[string, int]{over("a a b b", 1)}, "a1 b3"},
		{"above the last one, not the greatest", []iter.Seq2[string, int]{over("c a b d", 1)}, "c1 d4"},
		{"below, the same, above", []iter.Seq2[string, int]{over("b a b c", 1)}, "b1 c4"},
		{"left out of the first, in the second", []iter.Seq2[string, int]{over("b a", 1), over("a b", 8)}, "a8 b1"},
		{"left out of the second, in the first", []iter.Seq2[string, int]{over("a b", 8), over("b a", 1)}, "a8 b9"},
		{"left out of the second, in the third", []iter.Seq2[string, int]{over("c", 5), over("b a", 1), over("a b", 8)}, "a8 b1 c5"},
		{"left out of both", []iter.Seq2[string, int]{over("b a", 1), over("c a", 5)}, "b1 c5"},
		{"each one's own order", []iter.Seq2[string, int]{over("z", 1), over("a b", 5), over("a c", 7)}, "a5 b6 c8 z1"},
	} {
		mustTell(t, x.what, merge.Merge(x.l...), x.want)
	}
	mustTell(t, "the empty key first", merge.Merge(merge.Over([]string{"", "", "a", ""}, []int{1, 2, 3, 4})), "1 a3")
}

// P3.1: the order is that of the bytes, whatever texts they are bytes of.
func TestMergeByBytes(t *testing.T) {
	rising := []string{"", "\x00", "\x00\x00", "A", "Z", "a", "a\x00", "aa", "ab", "b", "\x7f", "\x80", "\xc3\xa4", "\xef\xbf\xbd", "\xf0\x90\x80\x80", "\xff", "\xff\xff"}
	for step := 1; step < len(rising); step++ {
		var l []iter.Seq2[string, bool]
		for from := range step {
			var keys []string
			for i := from; i < len(rising); i += step {
				keys = append(keys, rising[i])
			}
			l = append(l, merge.Over(keys, make([]bool, len(keys))))
		}
		slices.Reverse(l)
		var got []string
		for k := range merge.Merge(l...) {
			got = append(got, k)
		}
		if !slices.Equal(got, rising) {
			t.Errorf("%d ranges: %q", step, got)
		}
	}
}

// P3.1 and P3.2: a range that is nil is one over nothing.
func TestNil(t *testing.T) {
	var none iter.Seq2[string, int]
	all := func(string, int) bool { return true }
	for what, s := range map[string]iter.Seq2[string, int]{
		"Merge":         merge.Merge(none),
		"Merge of more": merge.Merge(none, nil, none),
		"Keep":          merge.Keep(none, all),
		"Keep all":      merge.Keep(none, nil),
		"Take":          merge.Take(none, 1),
		"Take of none":  merge.Take(none, 0),
		"Over":          merge.Over[int](nil, nil),
	} {
		mustTell(t, what, s, "")
	}
	mustTell(t, "in front", merge.Merge(none, over("a c", 1), over("a b", 3)), "a1 b4 c2")
	mustTell(t, "between", merge.Merge(over("a c", 1), none, over("a b", 3)), "a1 b4 c2")
	mustTell(t, "behind", merge.Merge(over("a c", 1), over("a b", 3), none), "a1 b4 c2")
}

// P3.2: those of which keep is true, in the order of s, which need not rise.
func TestKeep(t *testing.T) {
	s := over("c a b a c", 1)
	for _, x := range []struct {
		what string
		keep func(string, int) bool
		want string
	}{
		{"nil", nil, "c1 a2 b3 a4 c5"},
		{"all", func(string, int) bool { return true }, "c1 a2 b3 a4 c5"},
		{"none", func(string, int) bool { return false }, ""},
		{"by key", func(k string, _ int) bool { return k == "a" }, "a2 a4"},
		{"by value", func(_ string, v int) bool { return v%2 == 1 }, "c1 b3 c5"},
		{"the first", func(_ string, v int) bool { return v == 1 }, "c1"},
		{"not the last", func(_ string, v int) bool { return v < 5 }, "c1 a2 b3 a4"},
	} {
		mustTell(t, x.what, merge.Keep(s, x.keep), x.want)
	}
}

// P3.2: keep is asked once of each, in order, and not ahead of what is ranged
// over: neither when Keep is called, nor behind the place where it is left.
func TestKeepIsAsked(t *testing.T) {
	var asked []string
	s := merge.Keep(over("b a d c", 1), func(k string, v int) bool {
		asked = append(asked, k+strconv.Itoa(v))
		return v%2 == 0
	})
	must := func(what, want string) {
		t.Helper()
		if got := strings.Join(asked, " "); got != want {
			t.Errorf("%s: asked of %q, want %q", what, got, want)
		}
		asked = nil
	}
	must("only called", "")
	told(s)
	must("ranged over", "b1 a2 d3 c4")
	told(s)
	must("ranged over again", "b1 a2 d3 c4")
	for k := range s {
		asked = append(asked, "body of "+k)
	}
	must("in turns", "b1 a2 body of a d3 c4 body of c")
	for range s {
		break
	}
	must("left", "b1 a2")
}

// P3.2: the first n, of n below 1 nothing, and of a greater n all.
func TestTake(t *testing.T) {
	const most, least = int(^uint(0) >> 1), -int(^uint(0)>>1) - 1
	s := over("b a b", 1)
	for _, x := range []struct {
		n    int
		want string
	}{
		{least, ""}, {-1, ""}, {0, ""}, {1, "b1"}, {2, "b1 a2"}, {3, "b1 a2 b3"}, {4, "b1 a2 b3"}, {most, "b1 a2 b3"},
	} {
		mustTell(t, "Take "+strconv.Itoa(x.n), merge.Take(s, x.n), x.want)
	}
	mustTell(t, "of none", merge.Take(over("", 1), 2), "")
}

// counted is a range over more than anyone below takes, which counts what it is
// asked for.
func counted(asked *int) iter.Seq2[string, int] {
	return func(yield func(string, int) bool) {
		for i := range 100 {
			*asked++
			if !yield("k", i+1) {
				return
			}
		}
	}
}

// P3.2: s is asked for no more than the first n: for nothing of n below 1, and
// for nothing behind the place where the range is left.
func TestTakeAsksForNoMore(t *testing.T) {
	for n := -2; n < 6; n++ {
		asked := 0
		s := merge.Take(counted(&asked), n)
		for time := range 3 {
			if want := time * max(n, 0); asked != want {
				t.Errorf("Take %d, %d times: asked for %d", n, time, asked)
			}
			told(s)
		}
		for leave := 1; leave <= n; leave++ {
			asked = 0
			for _, v := range s {
				if v == leave {
					break
				}
			}
			if asked != leave {
				t.Errorf("Take %d, left at %d: asked for %d", n, leave, asked)
			}
		}
	}
}

// P3.3: keys in their order, each with its value, as far as there are both.
func TestOver(t *testing.T) {
	for _, x := range []struct {
		keys   []string
		values []int
		want   string
	}{
		{nil, nil, ""},
		{[]string{}, []int{}, ""},
		{nil, []int{1}, ""},
		{[]string{"a"}, nil, ""},
		{[]string{"a"}, []int{1}, "a1"},
		{[]string{"a", "b"}, []int{1}, "a1"},
		{[]string{"a"}, []int{1, 2}, "a1"},
		{[]string{"a", "b", "c", "d"}, []int{1, 2}, "a1 b2"},
		{[]string{"a", "b"}, []int{1, 2, 3, 4}, "a1 b2"},
		{[]string{"b", "", "a", "b", "b"}, []int{5, 4, 3, 2, 1}, "b5 4 a3 b2 b1"},
	} {
		mustTell(t, strings.Join(x.keys, " "), merge.Over(x.keys, x.values), x.want)
	}
	// What is in a list's spare room is none of it.
	keys, values := []string{"a", "b", "c"}, []int{1, 2, 3}
	mustTell(t, "spare room", merge.Over(keys[:1], values[:2]), "a1")
}

// P3.3 and R3: the lists are as they were when Over was called, and are not
// written into, nor is their spare room.
func TestOverKeepsNothing(t *testing.T) {
	keys, values := []string{"a", "b", "c"}, []int{1, 2, 3}
	s := merge.Over(keys[:2], values[:2])
	mustTell(t, "first", s, "a1 b2")
	if !slices.Equal(keys, []string{"a", "b", "c"}) || !slices.Equal(values, []int{1, 2, 3}) {
		t.Errorf("written into: %q %v", keys, values)
	}
	keys[0], values[1] = "x", 9
	mustTell(t, "changed behind the call", s, "a1 b2")
	var got []string
	for k, v := range s {
		keys[1], values[0] = "y", 8
		got = append(got, k+strconv.Itoa(v))
	}
	if l := strings.Join(got, " "); l != "a1 b2" {
		t.Errorf("changed in the range: %q", l)
	}
}

// P3.1 and R3: a list of ranges that is handed to Merge is not kept, and not
// written into.
func TestMergeKeepsNothing(t *testing.T) {
	l := []iter.Seq2[string, int]{over("a c", 1), nil, over("a b", 3), over("z", 9)}
	s := merge.Merge(l[:3]...)
	mustTell(t, "first", s, "a1 b4 c2")
	if l[0] == nil || l[1] != nil || told(l[0]) != "a1 c2" || told(l[2]) != "a3 b4" || told(l[3]) != "z9" {
		t.Error("written into")
	}
	l[0], l[1], l[2] = nil, over("x", 7), over("y", 8)
	mustTell(t, "changed behind the call", s, "a1 b4 c2")
}

// steps is a row of numbers that looks unordered, the same in each run.
type steps struct{ at uint64 }

func (s *steps) below(n int) int {
	s.at = s.at*6364136223846793005 + 1442695040888963407
	return int(s.at >> 33 % uint64(n))
}

// text is one of a few bytes, those among them that are no letters.
func (s *steps) text(most int) string {
	b := make([]byte, s.below(most+1))
	for i := range b {
		b[i] = "\x00ab\x80\xff"[s.below(5)]
	}
	return string(b)
}

// plainly is what P3.1 asks of ranges over these keys, told by a plain map;
// the value at a place is 100 times its list's number, and the place.
func plainly(lists [][]string) []pair[int] {
	has := map[string]int{}
	for n, keys := range lists {
		for i, k := range keys {
			above := !slices.ContainsFunc(keys[:i], func(o string) bool { return o >= k })
			if _, there := has[k]; above && !there {
				has[k] = 100*n + i
			}
		}
	}
	var l []pair[int]
	for _, k := range slices.Sorted(maps.Keys(has)) {
		l = append(l, pair[int]{k, has[k]})
	}
	return l
}

// P3.1: many rows of ranges, rising ones and others, held against a plain map.
func TestMergeAgainstPlainMap(t *testing.T) {
	for seed := range uint64(2000) {
		s := &steps{seed}
		lists := make([][]string, s.below(8))
		var l []iter.Seq2[string, int]
		for n := range lists {
			var values []int
			for i := range s.below(12) {
				lists[n] = append(lists[n], s.text(2))
				values = append(values, 100*n+i)
			}
			if s.below(2) == 0 {
				slices.Sort(lists[n])
			}
			l = append(l, merge.Over(lists[n], values))
		}
		want := plainly(lists)
		if got := pairs(merge.Merge(l...)); !slices.Equal(got, want) {
			t.Fatalf("seed %d: %q: %v, want %v", seed, lists, got, want)
		}
		half := s.below(len(l) + 1)
		if got := pairs(merge.Merge(merge.Merge(l[:half]...), merge.Merge(l[half:]...))); !slices.Equal(got, want) {
			t.Fatalf("seed %d: merged of merged: %v, want %v", seed, got, want)
		}
	}
}

// P3.1: many ranges, and many keys.
func TestMergeMany(t *testing.T) {
	const many, each = 1000, 200
	name := func(i int) string { return string([]byte{byte(i >> 16), byte(i >> 8), byte(i)}) }
	var l []iter.Seq2[string, int]
	for n := range many {
		m := sorted.New[int]()
		for i := range each {
			m.Put(name(i*many+n), n)
			m.Put("x", n)
		}
		l = append(l, m.All())
	}
	i := 0
	for k, v := range merge.Merge(l...) {
		if i < many*each && (k != name(i) || v != i%many) || i == many*each && (k != "x" || v != 0) {
			t.Fatal(i, k, v)
		}
		i++
	}
	if i != many*each+1 {
		t.Error(i)
	}
}
