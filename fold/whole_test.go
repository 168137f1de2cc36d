package fold_test

import (
	"fmt"
	"math"
	"reflect"
	"slices"
	"testing"

	"wherry/api"
	"wherry/fold"
)

// P13.2: the first token, and the first job, of a key.
func TestTokenAndJob(t *testing.T) {
	s := base()
	for _, x := range s.Tokens {
		if got, is := fold.Token(s, x.Key); !is || got != x {
			t.Errorf("Token(%d): %+v %v", x.Key, got, is)
		}
	}
	for _, x := range s.Jobs {
		if got, is := fold.Job(s, x.Key); !is || got != x {
			t.Errorf("Job(%d): %+v %v", x.Key, got, is)
		}
	}
	for _, key := range []uint64{0, 5, 11, 13, 15, 31, 10 + 1<<32, 20 + 1<<32, math.MaxUint64} {
		if got, is := fold.Token(s, key); is || got != (api.Token{}) {
			t.Errorf("Token(%d): %+v %v", key, got, is)
		}
		if got, is := fold.Job(s, key); is || got != (api.Job{}) {
			t.Errorf("Job(%d): %+v %v", key, got, is)
		}
	}
	if got, is := fold.Token(s, 20); is || got != (api.Token{}) {
		t.Errorf("Token of a job's key: %+v %v", got, is)
	}
	if got, is := fold.Job(s, 10); is || got != (api.Job{}) {
		t.Errorf("Job of a token's key: %+v %v", got, is)
	}
	if !alike(s, base()) {
		t.Errorf("changed: %+v", s)
	}
}

// P13.2: of keys that stand twice, the first one, wherever it stands; and none of
// a state that has none.
func TestTokenAndJobTwice(t *testing.T) {
	s := twice()
	if got, is := fold.Token(s, 5); !is || got != s.Tokens[1] {
		t.Errorf("Token: %+v %v", got, is)
	}
	if got, is := fold.Job(s, 5); !is || got != s.Jobs[1] {
		t.Errorf("Job: %+v %v", got, is)
	}
	if got, is := fold.Token(api.State{}, 0); is || got != (api.Token{}) {
		t.Errorf("Token of none: %+v %v", got, is)
	}
	if got, is := fold.Job(api.State{}, 0); is || got != (api.Job{}) {
		t.Errorf("Job of none: %+v %v", got, is)
	}
	zero := api.State{Tokens: []api.Token{{Key: 1}, {Node: 7}}, Jobs: []api.Job{{Key: 1}, {Type: "x"}}}
	if got, is := fold.Token(zero, 0); !is || got != zero.Tokens[1] {
		t.Errorf("Token of 0: %+v %v", got, is)
	}
	if got, is := fold.Job(zero, 0); !is || got != zero.Jobs[1] {
		t.Errorf("Job of 0: %+v %v", got, is)
	}
}

// rich is base with every field of the first elements other than its zero value.
func rich() api.State {
	s := base()
	s.Tokens[0] = api.Token{Key: 10, Inst: 5, Scope: 1, Node: 1, By: -1, Stuck: "key"}
	s.Jobs[0] = api.Job{Key: 20, Token: 10, Type: "pay", Retries: 3, Worker: "w", Until: 9}
	s.Listed[0] = api.Listed{Token: 10, Inst: 5, Node: 1, Name: "m", Key: "k", Message: 31, Vars: []api.Var{num("a", 1), text("b", "x")}}
	s.Messages[0].Insts = []uint64{5, 3}
	return s
}

// variants changes one thing in a value and tells of it, again and again, each time
// another thing: a number, a text, a truth, a list's length, a list's order.
func variants(v reflect.Value, where string, tell func(where string)) {
	old := tidy(v)
	try := func(what string, x reflect.Value) {
		v.Set(x)
		tell(where + " " + what)
		v.Set(old)
	}
	switch v.Kind() {
	case reflect.Struct:
		for i := range v.NumField() {
			variants(v.Field(i), where+"."+v.Type().Field(i).Name, tell)
		}
	case reflect.Slice:
		for i := range v.Len() {
			variants(v.Index(i), fmt.Sprintf("%s[%d]", where, i), tell)
			try(fmt.Sprintf("without %d", i), reflect.AppendSlice(tidy(v.Slice(0, i)), v.Slice(i+1, v.Len())))
		}
		try("and a zero value", reflect.Append(tidy(v), reflect.Zero(v.Type().Elem())))
		if v.Len() > 1 {
			try("the first one last", reflect.Append(tidy(v.Slice(1, v.Len())), v.Index(0)))
			try("the first one twice", reflect.Append(tidy(v), v.Index(0)))
		}
	case reflect.String:
		try("longer", reflect.ValueOf(v.String()+"\x00"))
		try("other", reflect.ValueOf("other"+v.String()))
	case reflect.Bool:
		try("not", reflect.ValueOf(!v.Bool()))
	default:
		for _, by := range []int64{1, -1, 1 << 32, math.MinInt64} {
			x := reflect.New(v.Type()).Elem()
			if v.CanInt() {
				x.SetInt(v.Int() + by)
			} else {
				x.SetUint(v.Uint() + uint64(by))
			}
			try(fmt.Sprintf("and %d", by), x)
		}
	}
}

// P13.2: states that differ in one field, one element, or the order of two, aren't
// the same, either way round.
func TestSameOfOneThing(t *testing.T) {
	a, b := rich(), rich()
	if !fold.Same(a, b) || !fold.Same(a, a) {
		t.Fatal("a state isn't the same as itself")
	}
	n := 0
	variants(reflect.ValueOf(&b).Elem(), "s", func(where string) {
		n++
		if fold.Same(a, b) || fold.Same(b, a) {
			t.Errorf("%s: the same", where)
		}
		if !fold.Same(b, deepCopy(b)) {
			t.Errorf("%s: not the same as itself", where)
		}
	})
	if n < 500 || !alike(a, b) {
		t.Errorf("%d variants", n)
	}
}

// P13.2: a list without elements is the same as one that is nil, the lists of
// elements too; spare room doesn't count.
func TestSameOfEmptyLists(t *testing.T) {
	empty := api.State{
		Procs: []api.Deployed{}, Insts: []api.Instance{}, Tokens: []api.Token{}, Jobs: []api.Job{}, Timers: []api.Timer{},
		Subs: []api.Sub{}, Kept: []api.Kept{}, Listed: make([]api.Listed, 0, 5), Messages: []api.Message{},
	}
	none := api.State{}
	if !fold.Same(empty, none) || !fold.Same(none, empty) {
		t.Error("empty lists")
	}
	a := api.State{Insts: []api.Instance{{}}, Listed: []api.Listed{{}}, Messages: []api.Message{{}}}
	b := api.State{
		Insts:    append(make([]api.Instance, 0, 9), api.Instance{Vars: []api.Var{}}),
		Listed:   []api.Listed{{Vars: make([]api.Var, 0, 3)}},
		Messages: []api.Message{{Vars: []api.Var{}, Insts: []uint64{}}},
	}
	if !fold.Same(a, b) || !fold.Same(b, a) {
		t.Error("empty lists of elements")
	}
	if fold.Same(a, none) || fold.Same(none, a) {
		t.Error("an element that is zero")
	}
}

// P13.2: a clone is the same state; so is that of one with odd lists, of an empty
// one, and a clone's.
func TestClone(t *testing.T) {
	for _, s := range []api.State{base(), rich(), twice(), many(), {}, {Insts: []api.Instance{}, Messages: []api.Message{{Insts: []uint64{}}}}} {
		c := fold.Clone(s)
		if !alike(c, s) || !fold.Same(c, s) || !alike(fold.Clone(c), s) {
			t.Errorf("%+v, want %+v", c, s)
		}
	}
	s := rich()
	variants(reflect.ValueOf(&s).Elem(), "s", func(where string) {
		if c := fold.Clone(s); !alike(c, s) {
			t.Errorf("%s: %+v, want %+v", where, c, s)
		}
	})
}

// span is a piece of memory.
type span struct {
	from, to uintptr
	what     string
}

// spans are the pieces of memory of all lists of a value, their spare room too.
func spans(v reflect.Value, what string) []span {
	var l []span
	switch v.Kind() {
	case reflect.Slice:
		if size := uintptr(v.Cap()) * v.Type().Elem().Size(); size > 0 {
			l = append(l, span{v.Pointer(), v.Pointer() + size, what})
		}
		for i := range v.Cap() {
			l = append(l, spans(v.Slice(0, v.Cap()).Index(i), fmt.Sprintf("%s[%d]", what, i))...)
		}
	case reflect.Struct:
		for i := range v.NumField() {
			l = append(l, spans(v.Field(i), what+"."+v.Type().Field(i).Name)...)
		}
	}
	return l
}

// mustBeNew: the answer shares no memory with what was handed in, and none of its
// lists with another one.
func mustBeNew(t *testing.T, what string, got api.State, in ...any) {
	t.Helper()
	l := spans(reflect.ValueOf(got), "the answer")
	for i, x := range in {
		l = append(l, spans(reflect.ValueOf(x), fmt.Sprintf("what was handed in, %d", i))...)
	}
	mine := len(spans(reflect.ValueOf(got), ""))
	for i, a := range l[:mine] {
		for _, b := range l[i+1:] {
			if a.from < b.to && b.from < a.to {
				t.Errorf("%s: %s shares memory with %s", what, a.what, b.what)
			}
		}
	}
}

// roomy lays spare room behind each list, in which something stands.
func roomy(v reflect.Value) {
	switch v.Kind() {
	case reflect.Slice:
		for i := range v.Len() {
			roomy(v.Index(i))
		}
		n := v.Len()
		wide := reflect.MakeSlice(v.Type(), 0, n+3)
		wide = reflect.AppendSlice(wide, v)
		for range 3 {
			x := reflect.New(v.Type().Elem()).Elem()
			if n > 0 {
				x.Set(tidy(v.Index(0)))
			}
			wide = reflect.Append(wide, x)
		}
		v.Set(wide.Slice(0, n))
	case reflect.Struct:
		for i := range v.NumField() {
			roomy(v.Field(i))
		}
	}
}

// room is what stands in a list's memory, its spare room too.
func room[T any](x T) T {
	var wide func(v reflect.Value)
	wide = func(v reflect.Value) {
		switch v.Kind() {
		case reflect.Slice:
			all := v.Slice(0, v.Cap())
			out := reflect.MakeSlice(v.Type(), all.Len(), all.Len())
			reflect.Copy(out, all)
			for i := range out.Len() {
				wide(out.Index(i))
			}
			v.Set(out)
		case reflect.Struct:
			for i := range v.NumField() {
				wide(v.Field(i))
			}
		}
	}
	wide(reflect.ValueOf(&x).Elem())
	return x
}

// events are records of all kinds, of keys that are in base and that are not.
func events() []api.Record {
	var l []api.Record
	for kind := range 27 {
		for _, key := range []uint64{5, 10, 11, 12, 20, 31, 33} {
			for _, message := range []uint64{31, 33, 34} {
				l = append(l, api.Record{Class: api.Event, Kind: kind, From: 35, Key: key, Key2: message, N: 1, A: "p", B: "k", Vars: vars(1)})
			}
		}
	}
	return append(l, full(api.Command, 1, 0), full(api.Refusal, 1, 3), full(4, 2, 3))
}

// P13.3 and R3: what is handed in to Apply, and its spare room, is not changed; the
// answer is new memory, and its lists share none.
func TestApplyLeavesWhatIsHandedIn(t *testing.T) {
	for _, r := range events() {
		s := rich()
		roomy(reflect.ValueOf(&s).Elem())
		roomy(reflect.ValueOf(&r).Elem())
		before, beforeR := room(s), room(r)
		got := fold.Apply(s, 41, r)
		what := fmt.Sprintf("kind %d, keys %d, %d", r.Kind, r.Key, r.Key2)
		if !reflect.DeepEqual(room(s), before) || !reflect.DeepEqual(room(r), beforeR) {
			t.Errorf("%s: what was handed in is changed", what)
		}
		mustBeNew(t, what, got, s, r)
		if want := folded(rich(), 41, r); !alike(got, want) {
			t.Errorf("%s: %+v, want %+v", what, got, want)
		}
	}
}

// P13.2 and R3: a clone is of new memory: neither sees what becomes of the other.
func TestCloneIsNew(t *testing.T) {
	s := rich()
	roomy(reflect.ValueOf(&s).Elem())
	before := room(s)
	c := fold.Clone(s)
	if !reflect.DeepEqual(room(s), before) {
		t.Error("what was handed in is changed")
	}
	mustBeNew(t, "a clone", c, s)
	mustBeNew(t, "an empty one's clone", fold.Clone(api.State{Tokens: s.Tokens[:0], Messages: s.Messages[:0]}), s)
	scribble := func(s *api.State) {
		slices.Reverse(s.Tokens)
		clear(s.Procs)
		clear(s.Insts[0].Vars)
		clear(s.Insts)
		clear(s.Jobs)
		clear(s.Timers)
		clear(s.Subs)
		clear(s.Kept)
		clear(s.Listed[1].Vars)
		clear(s.Listed)
		clear(s.Messages[1].Vars)
		clear(s.Messages[1].Insts)
		clear(s.Messages)
	}
	d := fold.Clone(c)
	scribble(&c)
	if !alike(s, rich()) || !alike(d, rich()) {
		t.Error("the state sees what becomes of its clone")
	}
	scribble(&s)
	if !alike(d, rich()) {
		t.Error("the clone sees what becomes of the state")
	}
}

// R3: what is folded in isn't seen again when the record's variables, or the state
// ahead of it, are changed later.
func TestNothingIsKept(t *testing.T) {
	for _, kind := range []int{api.EBegan, api.EVars, api.EPublished, api.ESending} {
		r := api.Record{Class: api.Event, Kind: kind, From: 35, Key: 10, Key2: 31, N: 1, Vars: vars(1)}
		if kind == api.EVars {
			r.Key = 5
		}
		s := base()
		want := folded(s, 41, r)
		got := fold.Apply(s, 41, r)
		again := fold.Apply(s, 41, r)
		clear(r.Vars)
		clear(s.Messages[0].Vars)
		for _, x := range again.Messages {
			clear(x.Vars)
			clear(x.Insts)
		}
		if !alike(got, want) {
			t.Errorf("kind %d: %+v, want %+v", kind, got, want)
		}
	}
}
