package fold_test

import (
	"fmt"
	"math"
	"testing"

	"wherry/api"
	"wherry/fold"
)

// num and text are variables.
func num(name string, n int64) api.Var {
	return api.Var{Name: name, V: api.Value{Kind: api.Int, N: n}}
}
func text(name, s string) api.Var {
	return api.Var{Name: name, V: api.Value{Kind: api.Text, S: s}}
}

// vars is one variable.
func vars(n int64) []api.Var { return []api.Var{num("v", n)} }

// base is a state that has several elements in each of its lists.
func base() api.State {
	return api.State{
		Pos: 40, Done: 30, Made: 20,
		Procs: []api.Deployed{{Id: "p", Bytes: "old p"}, {Id: "q", Bytes: "old q"}},
		Insts: []api.Instance{{Key: 5, Id: "p", Vars: vars(50)}, {Key: 7, Id: "q", Vars: vars(70)}},
		Tokens: []api.Token{
			{Key: 10, Inst: 5, Node: 1, By: -1},
			{Key: 12, Inst: 7, Scope: 10, Node: 2, By: 3, Stuck: "loop"},
			{Key: 14, Inst: 5, Node: 3, By: 4},
		},
		Jobs: []api.Job{
			{Key: 20, Token: 10, Type: "pay", Retries: 3},
			{Key: 22, Token: 12, Type: "ship", Retries: 2, Worker: "w", Until: 99},
			{Key: 24, Token: 14, Type: "pay", Retries: 1},
		},
		Timers: []api.Timer{{Token: 10, Node: 1, When: 60}, {Token: 12, Node: 1, When: 61}, {Token: 12, Node: 4, When: 62}, {Token: 14, Node: 1, When: 63}},
		Subs: []api.Sub{
			{Token: 10, Inst: 5, Node: 1, Name: "m", Key: "k"},
			{Token: 12, Inst: 7, Node: 1, Name: "m", Key: "l", Open: true},
			{Token: 12, Inst: 7, Node: 4, Name: "n", Key: "k"},
			{Token: 14, Inst: 5, Node: 1, Name: "n", Key: "l"},
		},
		Kept: []api.Kept{{Token: 10, Message: 31, Node: 1}, {Token: 12, Message: 33, Node: 1}},
		Listed: []api.Listed{
			{Token: 10, Inst: 5, Node: 1, Name: "m", Key: "k"},
			{Token: 12, Inst: 7, Node: 1, Name: "m", Key: "k", Message: 33, Vars: vars(330)},
			{Token: 12, Inst: 8, Node: 4, Name: "m", Key: "k"},
		},
		Messages: []api.Message{
			{Key: 31, Name: "m", For: "k", Id: "x", Until: 80, Vars: vars(310)},
			{Key: 33, Name: "m", For: "k", Id: "y", Until: 90, Vars: vars(330), Insts: []uint64{7, 5, 7, 9}},
		},
	}
}

// mustFold: a record that is folded into base comes to base changed so. What every
// event does, Pos and Done, the record's event does here too.
func mustFold(t *testing.T, what string, r api.Record, change func(s *api.State)) {
	t.Helper()
	mustFoldInto(t, what, base(), r, change)
}

func mustFoldInto(t *testing.T, what string, s api.State, r api.Record, change func(s *api.State)) {
	t.Helper()
	want := deepCopy(s)
	want.Pos, want.Done = 41, 35
	change(&want)
	r.Class, r.From = api.Event, 35
	if got := fold.Apply(s, 41, r); !alike(got, want) {
		t.Errorf("%s:\n%+v, want\n%+v", what, got, want)
	}
}

func nothing(*api.State) {}

// P13.1: the chapter's example.
func TestExample(t *testing.T) {
	var s api.State
	for i, r := range []api.Record{
		{Kind: api.EBegan, Key: 7, A: "p"},
		{Kind: api.EEntered, Key: 8, Key2: 7, N: 2},
		{Kind: api.ELeft, Key: 8},
	} {
		r.Class, r.From = api.Event, 1
		s = fold.Apply(s, uint64(i+2), r)
	}
	want := api.State{Pos: 4, Done: 1, Made: 2, Insts: []api.Instance{{Key: 7, Id: "p"}}}
	if !alike(s, want) {
		t.Errorf("%+v, want %+v", s, want)
	}
}

// full is a record no field of which is its zero value, such that every kind of
// event finds what it is of in base.
func full(class, kind int, from uint64) api.Record {
	return api.Record{Class: class, Kind: kind, From: from, Time: 9, Key: 10, Key2: 31, Key3: 3, N: 1, M: 2, A: "a", B: "b", C: "c", Vars: vars(1)}
}

// P13.1: a command, or a record of another class, changes Pos alone, whatever else
// it has; a refusal Done too.
func TestClasses(t *testing.T) {
	kinds := []int{math.MinInt, -1, math.MaxInt}
	for kind := range 40 {
		kinds = append(kinds, kind)
	}
	for _, kind := range kinds {
		for _, class := range []int{api.Command, 0, 4, -1, 5, 258, 1<<32 + 2, 1<<32 + 3, math.MinInt, math.MaxInt} {
			want := base()
			want.Pos = 41
			if got := fold.Apply(base(), 41, full(class, kind, 99)); !alike(got, want) {
				t.Errorf("class %d, kind %d: %+v", class, kind, got)
			}
		}
		want := base()
		want.Pos, want.Done = 41, 99
		if got := fold.Apply(base(), 41, full(api.Refusal, kind, 99)); !alike(got, want) {
			t.Errorf("a refusal, kind %d: %+v", kind, got)
		}
	}
}

// P13.1: events of kinds that do nothing, and of kinds that there are not.
func TestKindsThatDoNothing(t *testing.T) {
	for _, kind := range []int{api.EPassed, api.EDone, 0, -1, -2, 25, 26, 256 + api.EBegan, 1<<32 + api.EBegan, math.MinInt, math.MaxInt} {
		r := full(api.Event, kind, 35)
		mustFold(t, fmt.Sprintf("kind %d", kind), r, nothing)
		mustFoldInto(t, fmt.Sprintf("kind %d, the empty state", kind), api.State{}, r, nothing)
	}
}

// P13.1: Pos is pos, be it above, at or below what it was; Done is the greater one
// of Done and From, of events of all kinds and of refusals.
func TestPosAndDone(t *testing.T) {
	for _, pos := range []uint64{0, 1, 39, 40, 41, 1 << 40, math.MaxUint64} {
		for _, from := range []uint64{0, 1, 29, 30, 31, 1 << 40, 1 << 63, math.MaxUint64} {
			for class := range 5 {
				for kind := range 27 {
					done := uint64(30)
					if from > 30 && (class == api.Event || class == api.Refusal) {
						done = from
					}
					s := fold.Apply(base(), pos, full(class, kind, from))
					if s.Pos != pos || s.Done != done {
						t.Errorf("at %d, class %d, kind %d, from %d: Pos %d, Done %d", pos, class, kind, from, s.Pos, s.Done)
					}
				}
			}
		}
	}
	s := fold.Apply(api.State{Done: math.MaxUint64}, 1, api.Record{Class: api.Event, Kind: api.EDone, From: math.MaxUint64 - 1})
	if s.Done != math.MaxUint64 {
		t.Errorf("Done %d", s.Done)
	}
}

// P13.1: Made is one more with each event that makes a key, be there one of that
// key or not, and with no other; it goes round at 2^64 (R5).
func TestMade(t *testing.T) {
	makes := map[int]int{api.EBegan: 5, api.EEntered: 10, api.EJob: 20, api.EPublished: 31}
	for kind := -1; kind <= 26; kind++ {
		old, is := makes[kind]
		for _, key := range []uint64{0, 1, uint64(old), math.MaxUint64} {
			for _, made := range []uint64{0, 1, 20, 1 << 40, math.MaxUint64} {
				r := full(api.Event, kind, 35)
				r.Key = key
				s := base()
				s.Made = made
				want := made
				if is {
					want++
				}
				if got := fold.Apply(s, 41, r).Made; got != want {
					t.Errorf("kind %d, key %d: Made %d behind %d", kind, key, got, made)
				}
				for _, class := range []int{api.Command, api.Refusal, 0, 4} {
					r.Class = class
					if got := fold.Apply(s, 41, r).Made; got != made {
						t.Errorf("class %d, kind %d: Made %d behind %d", class, kind, got, made)
					}
				}
			}
		}
	}
}
