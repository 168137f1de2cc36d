package fold_test

import (
	"fmt"
	"math/rand"
	"slices"
	"testing"

	"wherry/api"
	"wherry/fold"
)

// pick is one of these.
func pick[T any](g *rand.Rand, l ...T) T { return l[g.Intn(len(l))] }

// randomVars are some variables, whatever g says.
func randomVars(g *rand.Rand) []api.Var {
	var l []api.Var
	for i := range g.Intn(4) {
		l = append(l, num(fmt.Sprintf("v%d", i), g.Int63n(5)))
	}
	return l
}

// random is a record, most often an event, of few keys, so that they meet.
func random(g *rand.Rand) api.Record {
	key := func() uint64 { return uint64(g.Intn(7)) }
	word := func() string { return pick(g, "", "a", "b", "ab", "c\xff") }
	return api.Record{
		Class: pick(g, 2, 2, 2, 2, 2, 2, 2, 1, 3, 0), Kind: g.Intn(26), From: uint64(g.Intn(50)), Time: g.Int63n(9),
		Key: key(), Key2: key(), Key3: key(), N: g.Int63n(4) - 1, M: g.Int63n(5) - 1,
		A: word(), B: word(), C: word(), Vars: randomVars(g),
	}
}

// several are some elements, each of which one makes.
func several[T any](g *rand.Rand, one func() T) []T {
	var l []T
	for range g.Intn(7) {
		l = append(l, one())
	}
	return l
}

// randomState is one whose lists most often don't rise, and have keys twice.
func randomState(g *rand.Rand) api.State {
	key := func() uint64 { return uint64(g.Intn(7)) }
	node := func() int { return g.Intn(4) - 1 }
	word := func() string { return pick(g, "", "a", "b", "ab", "c\xff") }
	return api.State{
		Pos: uint64(g.Intn(50)), Done: uint64(g.Intn(50)), Made: uint64(g.Intn(50)),
		Procs: several(g, func() api.Deployed { return api.Deployed{Id: word(), Bytes: word()} }),
		Insts: several(g, func() api.Instance { return api.Instance{Key: key(), Id: word(), Vars: randomVars(g)} }),
		Tokens: several(g, func() api.Token {
			return api.Token{Key: key(), Inst: key(), Scope: key(), Node: node(), By: node(), Stuck: word()}
		}),
		Jobs: several(g, func() api.Job {
			return api.Job{Key: key(), Token: key(), Type: word(), Retries: node(), Worker: word(), Until: g.Int63n(5)}
		}),
		Timers: several(g, func() api.Timer { return api.Timer{Token: key(), Node: node(), When: g.Int63n(5)} }),
		Subs: several(g, func() api.Sub {
			return api.Sub{Token: key(), Inst: key(), Node: node(), Name: word(), Key: word(), Open: g.Intn(2) == 0}
		}),
		Kept: several(g, func() api.Kept { return api.Kept{Token: key(), Message: key(), Node: node()} }),
		Listed: several(g, func() api.Listed {
			return api.Listed{Token: key(), Inst: key(), Node: node(), Name: word(), Key: word(), Message: key(), Vars: randomVars(g)}
		}),
		Messages: several(g, func() api.Message {
			return api.Message{Key: key(), Name: word(), For: word(), Id: word(), Until: g.Int63n(5), Vars: randomVars(g), Insts: several(g, key)}
		}),
	}
}

// P13.1, P13.2: of any state and any record, Apply is what the words say, and what
// is handed in stays; Same and Clone are as said.
func TestRandomStates(t *testing.T) {
	g := rand.New(rand.NewSource(13))
	for range 5000 {
		s, r := randomState(g), random(g)
		before, beforeR, pos := deepCopy(s), deepCopy(r), g.Uint64()
		want := folded(s, pos, r)
		got := fold.Apply(s, pos, r)
		if !alike(got, want) {
			t.Fatalf("%+v and %+v:\n%+v, want\n%+v", s, r, got, want)
		}
		if !alike(s, before) || !alike(r, beforeR) {
			t.Fatalf("%+v and %+v: changed", before, beforeR)
		}
		if fold.Same(got, before) != alike(got, before) || !fold.Same(got, want) || !alike(fold.Clone(got), want) {
			t.Fatalf("Same, Clone: %+v and %+v", got, before)
		}
		for key := range uint64(8) {
			mustFind(t, got, key)
		}
	}
}

// mustFind: Token and Job tell the first ones of the key, if there are.
func mustFind(t *testing.T, s api.State, key uint64) {
	t.Helper()
	var token api.Token
	at := slices.IndexFunc(s.Tokens, func(x api.Token) bool { return x.Key == key })
	if at >= 0 {
		token = s.Tokens[at]
	}
	if got, is := fold.Token(s, key); is != (at >= 0) || got != token {
		t.Errorf("Token(%d) of %+v: %+v %v", key, s.Tokens, got, is)
	}
	var job api.Job
	at = slices.IndexFunc(s.Jobs, func(x api.Job) bool { return x.Key == key })
	if at >= 0 {
		job = s.Jobs[at]
	}
	if got, is := fold.Job(s, key); is != (at >= 0) || got != job {
		t.Errorf("Job(%d) of %+v: %+v %v", key, s.Jobs, got, is)
	}
}

// rises: does each key of a list stand below the next one?
func rises[T any](l []T, hold func(a, b T) int) bool {
	for i := range l {
		if i > 0 && hold(l[i-1], l[i]) >= 0 {
			return false
		}
	}
	return true
}

// allRise: do all lists of a state?
func allRise(s api.State) bool {
	return rises(s.Procs, func(a, b api.Deployed) int { return hold(a.Id, b.Id) }) &&
		rises(s.Insts, func(a, b api.Instance) int { return hold(a.Key, b.Key) }) &&
		rises(s.Tokens, func(a, b api.Token) int { return hold(a.Key, b.Key) }) &&
		rises(s.Jobs, func(a, b api.Job) int { return hold(a.Key, b.Key) }) &&
		rises(s.Timers, func(a, b api.Timer) int { return holdPlace(a.Token, b.Token, a.Node, b.Node) }) &&
		rises(s.Subs, func(a, b api.Sub) int { return holdPlace(a.Token, b.Token, a.Node, b.Node) }) &&
		rises(s.Kept, func(a, b api.Kept) int { return holdPlace(a.Token, b.Token, a.Node, b.Node) }) &&
		rises(s.Listed, func(a, b api.Listed) int { return holdPlace(a.Token, b.Token, a.Node, b.Node) }) &&
		rises(s.Messages, func(a, b api.Message) int { return hold(a.Key, b.Key) })
}

// P13.3: records folded one by one, from the empty state on, or some of them now
// and the rest later, of a clone, come to the same; lists that rise stay so; states
// on the way stay as they were.
func TestRandomRuns(t *testing.T) {
	g := rand.New(rand.NewSource(14))
	for range 100 {
		var l []api.Record
		for range 1 + g.Intn(120) {
			l = append(l, random(g))
		}
		states, copies := []api.State{{}}, []api.State{{}}
		for i, r := range l {
			next := fold.Apply(states[i], uint64(i+1), r)
			if !allRise(next) {
				t.Fatalf("behind %+v: %+v", r, next)
			}
			if !alike(next, folded(copies[i], uint64(i+1), r)) {
				t.Fatalf("%+v: %+v behind %+v", r, next, copies[i])
			}
			states, copies = append(states, next), append(copies, deepCopy(next))
		}
		last := len(l)
		for _, from := range []int{0, g.Intn(last), last - 1, last} {
			s := fold.Clone(states[from])
			for i, r := range l[from:] {
				s = fold.Apply(s, uint64(from+i+1), r)
			}
			if !fold.Same(s, states[last]) || !alike(s, states[last]) {
				t.Fatalf("from %d on: %+v, want %+v", from, s, states[last])
			}
		}
		for i := range states {
			if !alike(states[i], copies[i]) {
				t.Fatalf("the state behind %d records is changed: %+v, was %+v", i, states[i], copies[i])
			}
		}
	}
}

// P13.3: two ways on from one state don't meet.
func TestTwoWaysOn(t *testing.T) {
	g := rand.New(rand.NewSource(15))
	for range 2000 {
		s, a, b := randomState(g), random(g), random(g)
		before := deepCopy(s)
		x, y := fold.Apply(s, 1, a), fold.Apply(s, 1, b)
		wantX, wantY := folded(before, 1, a), folded(before, 1, b)
		x2, y2 := fold.Apply(x, 2, b), fold.Apply(y, 2, a)
		if !alike(x, wantX) || !alike(y, wantY) || !alike(x2, folded(wantX, 2, b)) || !alike(y2, folded(wantY, 2, a)) || !alike(s, before) {
			t.Fatalf("%+v: %+v, %+v", before, a, b)
		}
	}
}
