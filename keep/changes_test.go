package keep_test

import (
	"fmt"
	"reflect"
	"slices"
	"testing"

	"wherry/api"
	"wherry/keep"
)

// is and gone are changes.
func is(k, v string) api.Change     { return api.Change{K: k, Cell: api.Cell{S: v}} }
func gone(k string) api.Change      { return api.Change{K: k, Cell: api.Cell{Gone: true}} }
func list[T any](l ...T) []T        { return l }
func key7(letter string) string     { return numberKey(letter, 7) }
func whole(pos, done uint64) string { return uintBytes(pos) + uintBytes(done) + "\x00" }

func mustChange(t *testing.T, what string, rows []row, s api.State, want []api.Change) {
	t.Helper()
	if oracle := changesOf(rows, s); !slices.Equal(oracle, want) {
		t.Fatalf("%s: the test itself is wrong: %+v", what, oracle)
	}
	if got := keep.Changes(over(rows...), s); !slices.Equal(got, want) {
		t.Errorf("%s: %+v, want %+v", what, got, want)
	}
}

// P14.3: from no rows all of the state's rows; from its own none.
func TestChangesOfNoneAndOfTheSame(t *testing.T) {
	for what, s := range map[string]api.State{"empty": {}, "full": full()} {
		var all []api.Change
		for _, r := range written(s) {
			all = append(all, is(r.key, r.value))
		}
		mustChange(t, what+" of none", nil, s, all)
		if got := keep.Changes(nil, s); !slices.Equal(got, all) {
			t.Errorf("%s of nil: %+v", what, got)
		}
		mustChange(t, what+" of its own", written(s), s, nil)
		if got := keep.Changes(keep.Rows(s), s); len(got) > 0 {
			t.Errorf("%s of its own: %+v", what, got)
		}
	}
}

// P14.3: of keys in one of both, and in both with other values.
func TestChangesOfOther(t *testing.T) {
	s := api.State{Pos: 2, Done: 1, Insts: []api.Instance{{Key: 7, Id: "p"}}, Kept: []api.Kept{{Token: 7, Node: 1, Message: 3}}}
	a, i, k := row{"a", whole(2, 1)}, row{key7("i"), "\x01p\x00"}, row{placeKey("k", 7, 1), "\x03"}
	mustChange(t, "the whole other", list(row{"a", whole(1, 1)}, i, k), s, list(is("a", a.value)))
	mustChange(t, "another value", list(a, row{i.key, "\x01q\x00"}, k), s, list(is(i.key, i.value)))
	mustChange(t, "an empty value", list(a, row{i.key, ""}, k), s, list(is(i.key, i.value)))
	mustChange(t, "a longer value", list(a, i, row{k.key, k.value + "\x00"}), s, list(is(k.key, k.value)))
	mustChange(t, "one that is missing", list(a, k), s, list(is(i.key, i.value)))
	mustChange(t, "the last missing", list(a, i), s, list(is(k.key, k.value)))
	mustChange(t, "the first missing", list(i, k), s, list(is("a", a.value)))
	mustChange(t, "one too many", list(a, row{key7("g"), "x"}, i, k), s, list(gone(key7("g"))))
	mustChange(t, "the last too many", list(a, i, k, row{"z", ""}), s, list(gone("z")))
	mustChange(t, "two too many at the end", list(a, i, k, row{"y", "1"}, row{"z", "2"}), s, list(gone("y"), gone("z")))
	mustChange(t, "the first too many", list(row{"", "x"}, row{"A", "y"}, a, i, k), s, list(gone(""), gone("A")))
	mustChange(t, "a key that begins as another", list(a, row{"a\x00", ""}, row{i.key[:8], ""}, i, row{i.key + "\x00", ""}, k), s, list(gone("a\x00"), gone(i.key[:8]), gone(i.key+"\x00")))
	mustChange(t, "a key that no store has", list(a, i, k, row{"z" + long(2000), long(20000)}), s, list(gone("z"+long(2000))))
	mustChange(t, "all other", list(row{"b", ""}, row{"h", ""}, row{"j", ""}, row{"z", ""}), s,
		list(is("a", a.value), gone("b"), gone("h"), is(i.key, i.value), gone("j"), is(k.key, k.value), gone("z")))
	mustChange(t, "to the empty state", list(a, i, k), api.State{}, list(is("a", whole(0, 0)), gone(i.key), gone(k.key)))
}

// P14.3: of a state's rows to another one that differs in one thing.
func TestChangesOfOneThing(t *testing.T) {
	from := written(full())
	for what, x := range map[string]struct {
		change func(s *api.State)
		key    string
		gone   bool
	}{
		"Pos":        {func(s *api.State) { s.Pos++ }, "a", false},
		"Done":       {func(s *api.State) { s.Done++ }, "a", false},
		"Made":       {func(s *api.State) { s.Made++ }, "a", false},
		"a process":  {func(s *api.State) { s.Procs[1].Bytes = "c" }, "pp", false},
		"Vars":       {func(s *api.State) { s.Insts[0].Vars = nil }, numberKey("i", 5), false},
		"Stuck":      {func(s *api.State) { s.Tokens[1].Stuck = "" }, numberKey("t", 7), false},
		"Until":      {func(s *api.State) { s.Jobs[0].Until = 0 }, numberKey("j", 8), false},
		"When":       {func(s *api.State) { s.Timers[1].When = 3 }, placeKey("r", 7, 300), false},
		"Open":       {func(s *api.State) { s.Subs[0].Open = false }, placeKey("s", 7, 4), false},
		"Message":    {func(s *api.State) { s.Kept[2].Message = 1 }, placeKey("k", 2, 0), false},
		"Key":        {func(s *api.State) { s.Listed[1].Key = "k" }, placeKey("l", 8, 4), false},
		"Insts":      {func(s *api.State) { s.Messages[0].Insts = []uint64{4, 5, 300, 5} }, numberKey("g", 6), false},
		"no job":     {func(s *api.State) { s.Jobs = s.Jobs[1:] }, numberKey("j", 8), true},
		"no message": {func(s *api.State) { s.Messages = s.Messages[:1] }, numberKey("g", 10), true},
		"no token":   {func(s *api.State) { s.Tokens = s.Tokens[:2] }, numberKey("t", 1<<40+2), true},
		"no sub":     {func(s *api.State) { s.Subs = s.Subs[1:] }, placeKey("s", 7, 4), true},
	} {
		s := with(x.change)
		got := keep.Changes(over(from...), s)
		if len(got) != 1 || got[0].K != x.key || got[0].Cell.Gone != x.gone || !slices.Equal(got, changesOf(from, s)) {
			t.Errorf("%s: %+v", what, got)
		}
		back := keep.Changes(keep.Rows(s), full())
		if len(back) != 1 || back[0].K != x.key || back[0].Cell.Gone || !slices.Equal(back, changesOf(written(s), full())) {
			t.Errorf("%s, back: %+v", what, back)
		}
	}
}

// P14.3: of rows that don't rise, those that aren't above each one ahead of them are
// left out.
func TestChangesOfRowsThatDoNotRise(t *testing.T) {
	s := api.State{Insts: []api.Instance{{Key: 7, Id: "p"}}}
	a, i := row{"a", "\x00\x00\x00"}, row{key7("i"), "\x01p\x00"}
	mustChange(t, "the first value counts", list(a, row{i.key, "x"}, i), s, list(is(i.key, i.value)))
	mustChange(t, "not the second", list(a, i, row{i.key, "x"}), s, nil)
	mustChange(t, "one that is left out was not there", list(i, a), s, list(is("a", a.value)))
	mustChange(t, "nor is it gone", list(row{"h", ""}, row{"b", ""}, a, i), s, list(is("a", a.value), gone("h")))
	mustChange(t, "below the highest, though above the one ahead", list(a, row{"z", ""}, row{"b", ""}, i), s, list(is(i.key, i.value), gone("z")))
	mustChange(t, "an empty key first", list(row{"", ""}, row{"", "x"}, a, i), s, list(gone("")))
	mustChange(t, "an empty key behind", list(a, row{"", ""}, i), s, nil)
	l := written(full())
	slices.Reverse(l)
	got := keep.Changes(over(l...), full())
	if !slices.Equal(got, changesOf(l, full())) || len(got) != len(l)-1 {
		t.Errorf("from the end: %+v", got)
	}
}

// P14.3: to a state that may not be nothing, whatever the rows are.
func TestChangesToOneThatMayNotBe(t *testing.T) {
	for what, s := range map[string]api.State{
		"a token twice":       with(func(s *api.State) { s.Tokens = append(s.Tokens, s.Tokens[2]) }),
		"a time below 0":      with(func(s *api.State) { s.Timers[0].When = -1 }),
		"a text too long":     with(func(s *api.State) { s.Subs[0].Key = long(1025) }),
		"a value too long":    with(func(s *api.State) { s.Procs[0].Bytes = long(16383) }),
		"jobs that fall":      with(func(s *api.State) { slices.Reverse(s.Jobs) }),
		"variables not so":    with(func(s *api.State) { s.Insts[0].Vars[0].V.Kind = 9 }),
		"a node below 0":      with(func(s *api.State) { s.Kept[0].Node = -1 }),
		"a node far too high": with(func(s *api.State) { s.Kept[0].Node += 1 << 16 }),
	} {
		for _, rows := range [][]row{nil, written(full()), {{"a", "x"}, {"b", "y"}}} {
			mustChange(t, what, rows, s, nil)
		}
		if got := keep.Changes(nil, s); len(got) > 0 {
			t.Errorf("%s: %+v", what, got)
		}
	}
}

// P14.3: each field of each element is in its row: one that is another makes a change.
func TestEachFieldCounts(t *testing.T) {
	from := written(full())
	fields := 0
	var each func(v reflect.Value, s *api.State, where string)
	each = func(v reflect.Value, s *api.State, where string) {
		switch v.Kind() {
		case reflect.Struct:
			for i := range v.NumField() {
				each(v.Field(i), s, where+"."+v.Type().Field(i).Name)
			}
			return
		case reflect.Slice:
			for i := range v.Len() {
				each(v.Index(i), s, fmt.Sprintf("%s[%d]", where, i))
			}
			return
		}
		old := reflect.ValueOf(v.Interface())
		switch v.Kind() {
		case reflect.String:
			v.SetString(v.String() + "y")
		case reflect.Bool:
			v.SetBool(!v.Bool())
		case reflect.Uint64:
			v.SetUint(v.Uint() + 1)
		default:
			v.SetInt(v.Int() + 1)
		}
		fields++
		got := keep.Changes(over(from...), *s)
		if may := mayBe(*s); may != keep.May(*s) || may && len(got) == 0 || !slices.Equal(got, changesOf(from, *s)) {
			t.Errorf("%s: %+v", where, got)
		}
		v.Set(old)
	}
	s := full()
	each(reflect.ValueOf(&s).Elem(), &s, "s")
	if fields < 100 || !alike(s, full()) {
		t.Errorf("%d fields", fields)
	}
}
