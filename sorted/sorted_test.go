package sorted_test

import (
	"iter"
	"maps"
	"slices"
	"strings"
	"testing"

	"wherry/sorted"
)

// pair is a key and its value.
type pair[V any] struct {
	k string
	v V
}

// pairs are all that a range tells, in its order.
func pairs[V any](all iter.Seq2[string, V]) []pair[V] {
	var l []pair[V]
	for k, v := range all {
		l = append(l, pair[V]{k, v})
	}
	return l
}

// keys are those that a range tells, in its order.
func keys[V any](all iter.Seq2[string, V]) []string {
	var l []string
	for k := range all {
		l = append(l, k)
	}
	return l
}

// mapOf has these keys; each one's value is its place among them, from 1 on.
func mapOf(ks ...string) *sorted.Map[int] {
	m := sorted.New[int]()
	for i, k := range ks {
		m.Put(k, i+1)
	}
	return m
}

// mustTell holds a range's keys and values against those wanted.
func mustTell[V comparable](t *testing.T, what string, all iter.Seq2[string, V], want ...pair[V]) {
	t.Helper()
	if got := pairs(all); !slices.Equal(got, want) {
		t.Errorf("%s: %v, want %v", what, got, want)
	}
}

// P2.1 to P2.3: the chapter's examples.
func TestExamples(t *testing.T) {
	m := sorted.New[int]()
	if v, had := m.Put("b", 1); v != 0 || had {
		t.Error(v, had)
	}
	if v, had := m.Put("a", 2); v != 0 || had {
		t.Error(v, had)
	}
	if v, had := m.Put("b", 3); v != 1 || !had {
		t.Error(v, had)
	}
	mustTell(t, "All", m.All(), pair[int]{"a", 2}, pair[int]{"b", 3})
	mustTell(t, "From", m.From("aa"), pair[int]{"b", 3})
	mustTell(t, "Down", m.Down(), pair[int]{"b", 3}, pair[int]{"a", 2})
	mustTell(t, "Under", m.Under("a"), pair[int]{"a", 2})
	if v, had := m.Del("a"); v != 2 || !had {
		t.Error(v, had)
	}
	if m.Len() != 1 {
		t.Error(m.Len())
	}
}

// P2.1: an empty map has nothing, and two of them have nothing in common.
func TestNew(t *testing.T) {
	m, n := sorted.New[string](), sorted.New[string]()
	if m == nil || n == nil || m == n {
		t.Fatal("no map of its own")
	}
	if v, is := m.Get(""); v != "" || is {
		t.Error(v, is)
	}
	if v, had := m.Del(""); v != "" || had {
		t.Error(v, had)
	}
	if m.Len() != 0 {
		t.Error(m.Len())
	}
	for i, all := range rangesOf(m, "") {
		mustTell(t, rangeNames[i], all)
	}
	m.Put("", "x")
	if n.Len() != 0 {
		t.Error(n.Len())
	}
}

// P2.1: what Put, Get and Del answer, of a key that has a value, that has a
// zero value, that had one, and that has none.
func TestAnswers(t *testing.T) {
	m := mapOf("a", "c")
	m.Put("z", 0)
	for _, x := range []struct {
		what string
		call func() (int, bool)
		v    int
		is   bool
		n    int
	}{
		{"Get of one", func() (int, bool) { return m.Get("a") }, 1, true, 3},
		{"Get again", func() (int, bool) { return m.Get("a") }, 1, true, 3},
		{"Get of a zero", func() (int, bool) { return m.Get("z") }, 0, true, 3},
		{"Get ahead of all", func() (int, bool) { return m.Get("A") }, 0, false, 3},
		{"Get between", func() (int, bool) { return m.Get("b") }, 0, false, 3},
		{"Get behind all", func() (int, bool) { return m.Get("zz") }, 0, false, 3},
		{"Get of the empty key", func() (int, bool) { return m.Get("") }, 0, false, 3},
		{"Put in the place of one", func() (int, bool) { return m.Put("a", 7) }, 1, true, 3},
		{"Put in the place of a zero", func() (int, bool) { return m.Put("z", 8) }, 0, true, 3},
		{"Put of a new one", func() (int, bool) { return m.Put("b", 9) }, 0, false, 4},
		{"Put of the empty key", func() (int, bool) { return m.Put("", 5) }, 0, false, 5},
		{"Get of what was put", func() (int, bool) { return m.Get("a") }, 7, true, 5},
		{"Get of the empty key that has one", func() (int, bool) { return m.Get("") }, 5, true, 5},
		{"Del of none", func() (int, bool) { return m.Del("bb") }, 0, false, 5},
		{"Del of one", func() (int, bool) { return m.Del("a") }, 7, true, 4},
		{"Del of it again", func() (int, bool) { return m.Del("a") }, 0, false, 4},
		{"Get of it", func() (int, bool) { return m.Get("a") }, 0, false, 4},
		{"Put of it anew", func() (int, bool) { return m.Put("a", 6) }, 0, false, 5},
		{"Del of the first", func() (int, bool) { return m.Del("") }, 5, true, 4},
		{"Del of the last", func() (int, bool) { return m.Del("z") }, 8, true, 3},
	} {
		if v, is := x.call(); v != x.v || is != x.is || m.Len() != x.n {
			t.Errorf("%s: %d %v, %d keys; want %d %v, %d", x.what, v, is, m.Len(), x.v, x.is, x.n)
		}
	}
	mustTell(t, "All", m.All(), pair[int]{"a", 6}, pair[int]{"b", 9}, pair[int]{"c", 2})
}

// The head of the promises: a nil map.
func TestNilMap(t *testing.T) {
	var m *sorted.Map[int]
	for what, call := range map[string]func() (int, bool){
		"Put": func() (int, bool) { return m.Put("a", 7) },
		"Get": func() (int, bool) { return m.Get("a") },
		"Del": func() (int, bool) { return m.Del("a") },
	} {
		if v, is := call(); v != 0 || is || m.Len() != 0 {
			t.Errorf("%s: %d %v, %d keys", what, v, is, m.Len())
		}
	}
	for i, all := range rangesOf(m, "") {
		mustTell(t, rangeNames[i], all)
	}
	c := m.Clone()
	if c == nil || c.Len() != 0 {
		t.Fatal("no new empty map")
	}
	if c.Put("a", 1); c.Len() != 1 || m.Clone().Len() != 0 {
		t.Error(c.Len(), m.Clone().Len())
	}
}

// P2.1 and P2.2, with values of more types: a text, a struct, a list, a
// pointer, a function, an interface, another map.
func TestTypes(t *testing.T) {
	type part struct {
		n    int
		name string
	}
	holds(t, "text", "x", "y", func(a, b string) bool { return a == b })
	holds(t, "struct", part{1, "x"}, part{2, "y"}, func(a, b part) bool { return a == b })
	holds(t, "list", []byte("x"), []byte("y"), slices.Equal[[]byte])
	holds(t, "pointer", new(int), new(int), func(a, b *int) bool { return a == b })
	holds(t, "interface", any([]int{1}), any("y"), func(a, b any) bool {
		x, isList := a.([]int)
		y, both := b.([]int)
		return isList == both && (isList && slices.Equal(x, y) || !isList && a == b)
	})
	holds(t, "map", mapOf("x"), mapOf("y"), func(a, b *sorted.Map[int]) bool { return a == b })
	holds(t, "function", func() int { return 1 }, func() int { return 2 }, func(a, b func() int) bool {
		return (a == nil) == (b == nil) && (a == nil || a() == b())
	})
}

// holds asks a map of one type's values for all it promises of them.
func holds[V any](t *testing.T, what string, a, b V, same func(a, b V) bool) {
	t.Helper()
	var none V
	m := sorted.New[V]()
	must := func(step string, v V, is bool, want V, wantIs bool) {
		t.Helper()
		if !same(v, want) || is != wantIs {
			t.Errorf("%s: %s: %v %v", what, step, v, is)
		}
	}
	v, is := m.Put("k", a)
	must("first Put", v, is, none, false)
	v, is = m.Put("k", b)
	must("second Put", v, is, a, true)
	v, is = m.Get("k")
	must("Get", v, is, b, true)
	v, is = m.Get("l")
	must("Get of none", v, is, none, false)
	m.Put("j", a)
	l := pairs(m.Clone().Down())
	if len(l) != 2 || l[0].k != "k" || !same(l[0].v, b) || l[1].k != "j" || !same(l[1].v, a) {
		t.Errorf("%s: Down: %v", what, l)
	}
	v, is = m.Del("k")
	must("Del", v, is, b, true)
	v, is = m.Del("k")
	must("Del of none", v, is, none, false)
}

// P2.3: a clone has the same keys and values, of a map of any size.
func TestClone(t *testing.T) {
	for _, ks := range [][]string{{}, {""}, {"b", "a"}, {"b", "c", "a", "", "bb"}} {
		m := mapOf(ks...)
		n := m.Clone()
		if n == m || n.Len() != m.Len() {
			t.Fatalf("%q: the same map, or another length: %d", ks, n.Len())
		}
		mustTell(t, strings.Join(ks, " "), n.All(), pairs(m.All())...)
	}
}

// P2.4: what is done to a map isn't seen in its clone, nor the other way
// round, with room to spare or without.
func TestCloneApart(t *testing.T) {
	changes := map[string]func(m *sorted.Map[int]){
		"Put of a new first":  func(m *sorted.Map[int]) { m.Put("A", 9) },
		"Put of a new middle": func(m *sorted.Map[int]) { m.Put("aa", 9) },
		"Put of a new last":   func(m *sorted.Map[int]) { m.Put("z", 9) },
		"Put of an old one":   func(m *sorted.Map[int]) { m.Put("b", 9) },
		"Del of the first":    func(m *sorted.Map[int]) { m.Del("a") },
		"Del of the last":     func(m *sorted.Map[int]) { m.Del("c") },
	}
	for what, change := range changes {
		for spare := range 6 {
			m := mapOf("c", "a", "b")
			for i := range spare {
				m.Put("x"+string(rune('0'+i)), 0)
			}
			for i := range spare {
				m.Del("x" + string(rune('0'+i)))
			}
			n := m.Clone()
			want := pairs(m.All())
			change(m)
			mustTell(t, what+": the clone", n.All(), want...)
			want = pairs(m.All())
			for _, other := range changes {
				other(n)
			}
			mustTell(t, what+": the map", m.All(), want...)
		}
	}
}

// P2.4: clones of clones, and of a map that is being ranged over.
func TestClonesApart(t *testing.T) {
	m := mapOf("a", "b", "c")
	var all []*sorted.Map[int]
	for k := range m.All() {
		m.Del(k)
		all = append(all, m.Clone(), m.Clone().Clone())
		m.Put(k+k, 9)
	}
	for i, want := range []string{"b c", "b c", "aa c", "aa c", "aa bb", "aa bb"} {
		if got := strings.Join(keys(all[i].All()), " "); got != want {
			t.Errorf("clone %d: %q, want %q", i, got, want)
		}
	}
	if got := strings.Join(keys(m.All()), " "); got != "aa bb cc" {
		t.Errorf("%q", got)
	}
}

// steps is a row of numbers that looks unordered, the same in each run.
type steps struct{ at uint64 }

func (s *steps) below(n int) int {
	s.at = s.at*6364136223846793005 + 1442695040888963407
	return int(s.at >> 33 % uint64(n))
}

// text is one of a few bytes, those among them that are no letters.
func (s *steps) text(most int) string {
	b := make([]byte, s.below(most+1))
	for i := range b {
		b[i] = "\x00ab\x7f\x80\xff"[s.below(6)]
	}
	return string(b)
}

// sortedPairs are what a plain map has of the keys that may be, by rising keys.
func sortedPairs(m map[string]int, may func(string) bool) []pair[int] {
	var l []pair[int]
	for _, k := range slices.Sorted(maps.Keys(m)) {
		if may(k) {
			l = append(l, pair[int]{k, m[k]})
		}
	}
	return l
}

// P2.1 to P2.4: long rows of calls, held against a plain map that is sorted
// when it is told.
func TestAgainstPlainMap(t *testing.T) {
	for seed := range uint64(40) {
		s := &steps{seed}
		m, plain := sorted.New[int](), map[string]int{}
		for i := range 300 {
			k := s.text(3)
			old, had := plain[k]
			var v int
			var is bool
			switch s.below(5) {
			case 0, 1:
				v, is = m.Put(k, i)
				plain[k] = i
			case 2:
				v, is = m.Del(k)
				delete(plain, k)
			case 3:
				v, is = m.Get(k)
			case 4:
				older := m
				m = m.Clone()
				older.Put(k, -1)
				older.Del(s.text(3))
				v, is = m.Get(k)
			}
			if v != old || is != had || m.Len() != len(plain) {
				t.Fatalf("seed %d, step %d: %d %v, %d keys; want %d %v, %d", seed, i, v, is, m.Len(), old, had, len(plain))
			}
			holdRanges(t, m, plain, s.text(3))
		}
	}
}

// holdRanges holds all ranges at k against a plain map.
func holdRanges(t *testing.T, m *sorted.Map[int], plain map[string]int, k string) {
	t.Helper()
	rising := sortedPairs(plain, func(string) bool { return true })
	falling := slices.Clone(rising)
	slices.Reverse(falling)
	mustTell(t, "All", m.All(), rising...)
	mustTell(t, "Down", m.Down(), falling...)
	mustTell(t, "From", m.From(k), sortedPairs(plain, func(o string) bool { return o >= k })...)
	mustTell(t, "Under", m.Under(k), sortedPairs(plain, func(o string) bool { return strings.HasPrefix(o, k) })...)
}

// P2.1: more keys than any small room holds.
func TestMany(t *testing.T) {
	const many = 20011 // a prime, so that the steps below come to each number once
	m := sorted.New[int]()
	name := func(i int) string { return string([]byte{byte(i >> 16), byte(i >> 8), byte(i)}) }
	for i := range many {
		m.Put(name(i*7919%many), i*7919%many)
	}
	if m.Len() != many {
		t.Fatal(m.Len())
	}
	i := 0
	for k, v := range m.All() {
		if k != name(i) || v != i {
			t.Fatal(i, k, v)
		}
		i++
	}
	for i := range many {
		if v, had := m.Del(name(i * 104729 % many)); v != i*104729%many || !had {
			t.Fatal(i, v, had)
		}
	}
	if m.Len() != 0 {
		t.Error(m.Len())
	}
}
