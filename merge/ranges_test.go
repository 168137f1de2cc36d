package merge_test

import (
	"iter"
	"slices"
	"strings"
	"testing"

	"wherry/merge"
	"wherry/sorted"
)

// ranges are one of each call's over s, and of calls of calls.
func ranges(s iter.Seq2[string, int]) map[string]iter.Seq2[string, int] {
	odd := func(_ string, v int) bool { return v%2 == 1 }
	return map[string]iter.Seq2[string, int]{
		"Merge":            merge.Merge(s),
		"Merge with more":  merge.Merge(over("b bb", 50), s, over("a cc", 70)),
		"Keep all":         merge.Keep(s, nil),
		"Keep some":        merge.Keep(s, odd),
		"Take":             merge.Take(s, 3),
		"Take all":         merge.Take(s, 100),
		"Merge of Take":    merge.Merge(merge.Take(s, 2), merge.Keep(s, odd)),
		"Take of Keep":     merge.Take(merge.Keep(s, odd), 2),
		"Keep of Merge":    merge.Keep(merge.Merge(s, over("bb cc", 50)), nil),
		"Keep of all Keep": merge.Keep(merge.Keep(s, nil), odd),
	}
}

// The chapter's words: a range is gone through anew each time, over what there
// is then.
func TestAnew(t *testing.T) {
	m := sorted.New[int]()
	for what, s := range ranges(m.All()) {
		for _, keys := range []string{"", "a b c d", "b", "c d e f g", "", "a"} {
			for k := range m.All() {
				m.Del(k)
			}
			for k, v := range over(keys, 1) {
				m.Put(k, v)
			}
			mustTell(t, what+" over "+keys, s, told(ranges(over(keys, 1))[what]))
		}
	}
}

// The chapter's words: a range may be left at any time, and ranged over from
// its beginning again.
func TestLeft(t *testing.T) {
	all := ranges(over("a b c d e", 1))
	all["Over"] = merge.Over([]string{"b", "a", "c"}, []int{1, 2, 3})
	for what, s := range all {
		whole := pairs(s)
		if len(whole) < 2 {
			t.Fatalf("%s: %v", what, whole)
		}
		for most := range len(whole) + 1 {
			var got []pair[int]
			for k, v := range s {
				if len(got) == most {
					break
				}
				got = append(got, pair[int]{k, v})
			}
			if !slices.Equal(got, whole[:most]) {
				t.Errorf("%s, left behind %d: %v", what, most, got)
			}
		}
		if got := pairs(s); !slices.Equal(got, whole) {
			t.Errorf("%s, behind all of that: %v", what, got)
		}
	}
}

// The chapter's words: ranges within the same ranges know nothing of one
// another.
func TestWithin(t *testing.T) {
	for what, s := range ranges(over("a b c d e", 1)) {
		whole := pairs(s)
		var got []pair[int]
		for k, v := range s {
			for inner := range s {
				if inner == k {
					break
				}
			}
			if inner := pairs(s); !slices.Equal(inner, whole) {
				t.Errorf("%s at %s: %v", what, k, inner)
			}
			got = append(got, pair[int]{k, v})
		}
		if !slices.Equal(got, whole) {
			t.Errorf("%s: %v", what, got)
		}
	}
}

// P3.1 and P3.2: maps may be changed while ranges over them go on.
func TestChangedInRange(t *testing.T) {
	for what := range ranges(nil) {
		m := sorted.New[int]()
		for k, v := range over("a b c d e", 1) {
			m.Put(k, v)
		}
		s := ranges(m.All())[what]
		want := pairs(s)
		var got []pair[int]
		for k, v := range s {
			got = append(got, pair[int]{k, v})
			m.Del("e")
			m.Put(k+"'", 99)
			m.Put("c", 77)
		}
		if !slices.Equal(got, want) {
			t.Errorf("%s: %v, want %v", what, got, want)
		}
	}
}

// P3.1 and P3.2: no call goes over what it is handed ahead of being ranged
// over, and none goes over it twice.
func TestGoneThroughOnce(t *testing.T) {
	begun := ""
	named := func(name string) iter.Seq2[string, int] {
		return func(yield func(string, int) bool) {
			begun += name
			over("a b c", 1)(yield)
		}
	}
	for what, s := range map[string]iter.Seq2[string, int]{
		"1":    merge.Keep(named("1"), nil),
		"2":    merge.Keep(named("2"), func(string, int) bool { return true }),
		"3":    merge.Take(named("3"), 2),
		"4567": merge.Merge(named("4"), named("5"), nil, named("6"), named("7")),
	} {
		if begun != "" {
			t.Errorf("%s: begun by the call: %q", what, begun)
		}
		told(s)
		if begun != what {
			t.Errorf("%s: begun: %q", what, begun)
		}
		told(s)
		if begun != what+what {
			t.Errorf("%s: begun again: %q", what, begun)
		}
		begun = ""
	}
}

// R1: a range that goes on though it was left, or that tells something when it
// has ended, is not listened to then; nothing panics of it.
func TestStubborn(t *testing.T) {
	var late func(string, int) bool
	stubborn := func(yield func(string, int) bool) {
		late = yield
		for k, v := range over("a b c d e", 1) {
			yield(k, v)
		}
	}
	asked := ""
	keep := merge.Keep(stubborn, func(k string, v int) bool {
		asked += k
		return v > 1
	})
	for what, x := range map[string]struct {
		s    iter.Seq2[string, int]
		want string
	}{
		"Merge":    {merge.Merge(stubborn), "a1 b2 c3 d4 e5"},
		"Keep all": {merge.Keep(stubborn, nil), "a1 b2 c3 d4 e5"},
		"Keep":     {keep, "b2 c3 d4 e5"},
		"Take":     {merge.Take(stubborn, 2), "a1 b2"},
	} {
		mustTell(t, what, x.s, x.want)
		if late("z", 9) {
			t.Errorf("%s: asked for more behind its end", what)
		}
		asked = ""
		for range x.s {
			break
		}
		if what == "Keep" && asked != "ab" {
			t.Errorf("asked of %q", asked)
		}
	}
}

// P3.1 to P3.3, with values of more types: a text, a struct, a list, a
// pointer, a function, an interface, a range.
func TestTypes(t *testing.T) {
	type part struct {
		n    int
		name string
	}
	holds(t, "text", "x", "y", func(a, b string) bool { return a == b })
	holds(t, "struct", part{1, "x"}, part{2, "y"}, func(a, b part) bool { return a == b })
	holds(t, "list", []byte("x"), []byte("y"), slices.Equal[[]byte])
	holds(t, "array", [2]bool{true, false}, [2]bool{false, true}, func(a, b [2]bool) bool { return a == b })
	holds(t, "pointer", new(int), new(int), func(a, b *int) bool { return a == b })
	holds(t, "nothing", struct{}{}, struct{}{}, func(a, b struct{}) bool { return true })
	holds(t, "interface", any("x"), any(2), func(a, b any) bool { return a == b })
	holds(t, "function", func() int { return 1 }, func() int { return 2 }, func(a, b func() int) bool { return a() == b() })
	holds(t, "range", over("x", 1), over("y", 2), func(a, b iter.Seq2[string, int]) bool { return told(a) == told(b) })
}

// holds asks all calls for what they promise of one type's values.
func holds[V any](t *testing.T, what string, a, b V, same func(a, b V) bool) {
	t.Helper()
	s := merge.Over([]string{"k", "j", "l"}, []V{a, b, b})
	m := sorted.New[V]()
	m.Put("j", a)
	m.Put("l", a)
	must := func(call string, s iter.Seq2[string, V], keys string, values ...V) {
		t.Helper()
		var got []string
		for k, v := range s {
			if len(got) >= len(values) || !same(v, values[len(got)]) {
				t.Errorf("%s: %s: %s has %v", what, call, k, v)
			}
			got = append(got, k)
		}
		if l := strings.Join(got, " "); l != keys {
			t.Errorf("%s: %s: %q", what, call, l)
		}
	}
	must("Over", s, "k j l", a, b, b)
	must("Merge", merge.Merge(s, nil, m.All()), "j k l", a, a, b)
	must("Merge the other way round", merge.Merge(m.All(), s), "j k l", a, a, a)
	must("Keep", merge.Keep(s, func(k string, v V) bool { return k != "k" && same(v, b) }), "j l", b, b)
	must("Keep all", merge.Keep(m.All(), nil), "j l", a, a)
	must("Take", merge.Take(s, 2), "k j", a, b)
	must("Take of Down", merge.Take(m.Down(), 1), "l", a)
}
