package sorted_test

import (
	"iter"
	"slices"
	"strings"
	"testing"

	"wherry/sorted"
)

var rangeNames = []string{"All", "From", "Down", "Under"}

// rangesOf are those of a map, by rangeNames; From and Under with k.
func rangesOf[V any](m *sorted.Map[V], k string) []iter.Seq2[string, V] {
	return []iter.Seq2[string, V]{m.All(), m.From(k), m.Down(), m.Under(k)}
}

// mustTellKeys holds a range's keys against those of a text, with blanks
// between them.
func mustTellKeys[V any](t *testing.T, what string, all iter.Seq2[string, V], want string) {
	t.Helper()
	if got := strings.Join(keys(all), " "); got != want {
		t.Errorf("%s: %q, want %q", what, got, want)
	}
}

// P2.2: All and Down are ordered by bytes, whatever texts they are bytes of.
func TestOrder(t *testing.T) {
	rising := []string{"", "\x00", "\x00\x00", "A", "Z", "a", "a\x00", "aa", "ab", "b", "z", "\x7f", "\x80", "\xc3\xa4", "\xef\xbf\xbd", "\xf0\x90\x80\x80", "\xff", "\xff\xff"}
	for turn := range rising {
		m := mapOf(slices.Concat(rising[turn:], rising[:turn])...)
		if got := keys(m.All()); !slices.Equal(got, rising) {
			t.Errorf("All: %q", got)
		}
		falling := slices.Clone(rising)
		slices.Reverse(falling)
		if got := keys(m.Down()); !slices.Equal(got, falling) {
			t.Errorf("Down: %q", got)
		}
	}
}

// P2.2: From begins with the key itself, or with the next one.
func TestFrom(t *testing.T) {
	m := mapOf("b", "bb", "d", "a\xff")
	for _, x := range []struct{ k, want string }{
		{"", "a\xff b bb d"},
		{"a", "a\xff b bb d"},
		{"a\xff", "a\xff b bb d"},
		{"a\xff\x00", "b bb d"},
		{"b", "b bb d"},
		{"b\x00", "bb d"},
		{"bb", "bb d"},
		{"c", "d"},
		{"d", "d"},
		{"d\x00", ""},
		{"\xff", ""},
	} {
		mustTellKeys(t, "From "+x.k, m.From(x.k), x.want)
	}
}

// P2.2: Under has the prefix itself, all that is longer, and no neighbour.
func TestUnder(t *testing.T) {
	m := mapOf("", "a", "a\x00", "ab", "ab\xff\xff", "ac", "b", "\xff", "\xff\xff", "\xffa")
	for _, x := range []struct{ prefix, want string }{
		{"", " a a\x00 ab ab\xff\xff ac b \xff \xffa \xff\xff"},
		{"a", "a a\x00 ab ab\xff\xff ac"},
		{"ab", "ab ab\xff\xff"},
		{"ab\xff", "ab\xff\xff"},
		{"abc", ""},
		{"aa", ""},
		{"b", "b"},
		{"c", ""},
		{"\xff", "\xff \xffa \xff\xff"},
		{"\xff\xff", "\xff\xff"},
		{"\xff\xff\xff", ""},
	} {
		mustTellKeys(t, "Under "+x.prefix, m.Under(x.prefix), x.want)
	}
}

// P2.2: a range goes over what there is when it is ranged over, not when it
// was called, each time anew.
func TestBegins(t *testing.T) {
	m := mapOf("a")
	ranges := rangesOf(m, "a")
	for _, x := range []struct {
		change  func()
		rising  string
		falling string
	}{
		{func() {}, "a", "a"},
		{func() {}, "a", "a"},
		{func() { m.Put("ab", 7) }, "a ab", "ab a"},
		{func() { m.Put("aa", 7) }, "a aa ab", "ab aa a"},
		{func() { m.Del("a") }, "aa ab", "ab aa"},
		{func() { m.Del("ab"); m.Del("aa") }, "", ""},
		{func() { m.Put("a", 7) }, "a", "a"},
	} {
		x.change()
		for i, all := range ranges {
			want := x.rising
			if rangeNames[i] == "Down" {
				want = x.falling
			}
			mustTellKeys(t, rangeNames[i], all, want)
		}
	}
}

// P2.2: a range may be left at any of its keys, and ranged over from its
// beginning again.
func TestLeft(t *testing.T) {
	m := mapOf("k1", "k2", "k3", "k4")
	for i, all := range rangesOf(m, "k") {
		whole := keys(all)
		if len(whole) != 4 {
			t.Fatalf("%s: %q", rangeNames[i], whole)
		}
		for most := range 5 {
			var got []string
			for k := range all {
				if len(got) == most {
					break
				}
				got = append(got, k)
			}
			if !slices.Equal(got, whole[:most]) {
				t.Errorf("%s, left behind %d: %q", rangeNames[i], most, got)
			}
		}
	}
}

// changes are all that may be done to a map, at each of its places.
func changes() map[string]func(m *sorted.Map[int]) {
	return map[string]func(m *sorted.Map[int]){
		"nothing":      func(m *sorted.Map[int]) {},
		"other values": func(m *sorted.Map[int]) { m.Put("k1", 91); m.Put("k3", 93); m.Put("k4", 94) },
		"a new first":  func(m *sorted.Map[int]) { m.Put("k", 90) },
		"new ones between": func(m *sorted.Map[int]) {
			for _, k := range []string{"k11", "k12", "k21", "k22", "k31"} {
				m.Put(k, 90)
			}
		},
		"a new last":   func(m *sorted.Map[int]) { m.Put("k9", 90) },
		"none of it":   func(m *sorted.Map[int]) { m.Del("k1"); m.Del("k2"); m.Del("k3"); m.Del("k4") },
		"not the last": func(m *sorted.Map[int]) { m.Del("k4") },
		"none, then others": func(m *sorted.Map[int]) {
			for _, k := range []string{"k1", "k2", "k3", "k4"} {
				m.Del(k)
			}
			m.Put("k3", 93)
			m.Put("k2", 92)
		},
	}
}

// P2.2 and P2.4: whatever becomes of the map while a range over it goes on,
// the range tells what it began with, each key once; and the map has what was
// done to it.
func TestChangedInRange(t *testing.T) {
	for what, change := range changes() {
		for i := range rangeNames {
			for at := range 4 {
				m, other := mapOf("k1", "k2", "k3", "k4"), mapOf("k1", "k2", "k3", "k4")
				all := rangesOf(m, "k")[i]
				want := pairs(all)
				var got []pair[int]
				for k, v := range all {
					if len(got) == at {
						change(m)
					}
					got = append(got, pair[int]{k, v})
				}
				if !slices.Equal(got, want) {
					t.Errorf("%s in %s, at %d: %v", what, rangeNames[i], at, got)
				}
				change(other)
				mustTell(t, what+" behind "+rangeNames[i], m.All(), pairs(other.All())...)
				mustTell(t, what+" again in "+rangeNames[i], all, pairs(rangesOf(other, "k")[i])...)
			}
		}
	}
}

// P2.2: the same with a change at each key, with room in the map and without.
func TestChangedAtEachKey(t *testing.T) {
	for size := range 10 {
		m := sorted.New[int]()
		for i := range size {
			m.Put(string(rune('a'+i)), i)
		}
		want := pairs(m.All())
		var got []pair[int]
		for k, v := range m.All() {
			m.Del(k)
			m.Put(k+"'", v+100)
			m.Put("'"+k, v+200)
			got = append(got, pair[int]{k, v})
		}
		if !slices.Equal(got, want) || m.Len() != 2*size {
			t.Errorf("%d keys: %v, then %d", size, got, m.Len())
		}
	}
}

// P2.2: ranges within ranges each go over what there was when they began.
func TestWithin(t *testing.T) {
	m := mapOf("a", "b", "c")
	all := m.All()
	var told []string
	for k := range all {
		m.Put(k+k, 9)
		var inner []string
		for l := range all {
			m.Del(l)
			inner = append(inner, l)
		}
		told = append(told, k+": "+strings.Join(inner, " "))
		m.Put("x"+k, 9)
	}
	want := []string{"a: a aa b c", "b: bb xa", "c: cc xb"}
	if !slices.Equal(told, want) {
		t.Errorf("%q", told)
	}
	mustTellKeys(t, "then", all, "xc")
}

// P2.2: an inner range that is over, or was left, doesn't end what the outer
// one was promised.
func TestInnerIsOver(t *testing.T) {
	for _, left := range []bool{false, true} {
		m := mapOf("a", "b", "c")
		var told []string
		for k := range m.All() {
			told = append(told, k)
			for range m.Down() {
				if left {
					break
				}
			}
			m.Del("b")
			m.Del("c")
			for range m.From("a") {
				m.Put("d", 9)
			}
			m.Put("aa", 9)
		}
		if got := strings.Join(told, " "); got != "a b c" {
			t.Errorf("%v: %q", left, got)
		}
		mustTellKeys(t, "then", m.All(), "a aa d")
	}
}

// P2.2: a range that goes on while others begin, end and change the map.
func TestPulled(t *testing.T) {
	m := mapOf("a", "b", "c", "d")
	next, stop := iter.Pull2(m.All())
	defer stop()
	down, end := iter.Pull2(m.Down())
	var rising, falling []string
	take := func(l *[]string, next func() (string, int, bool)) {
		if k, _, ok := next(); ok {
			*l = append(*l, k)
		}
	}
	take(&rising, next)
	take(&falling, down)
	m.Del("c")
	take(&falling, down)
	end()
	m.Put("aa", 9)
	take(&rising, next)
	third, stop3 := iter.Pull2(m.All())
	defer stop3()
	var now []string
	take(&now, third)
	m.Del("b")
	m.Del("d")
	for range 4 {
		take(&rising, next)
		take(&now, third)
	}
	for _, x := range []struct {
		got  []string
		want string
	}{{rising, "a b c d"}, {falling, "d c"}, {now, "a aa b d"}, {keys(m.All()), "a aa"}} {
		if got := strings.Join(x.got, " "); got != x.want {
			t.Errorf("%q, want %q", got, x.want)
		}
	}
}

// P2.2: a panic in the loop's body leaves the range too: the map and its other
// ranges go on.
func TestLeftByPanic(t *testing.T) {
	m := mapOf("a", "b", "c")
	all := m.All()
	for k := range all {
		func() {
			defer func() { recover() }()
			for range all {
				m.Put(k+k, 9)
				panic("left")
			}
		}()
		m.Put("x", 9)
	}
	mustTellKeys(t, "then", all, "a aa b bb c cc x")
}
