package match_test

import (
	"fmt"
	"math"
	"slices"
	"testing"

	"wherry/api"
	"wherry/flow"
	"wherry/match"
	"wherry/model"
)

// catcher is a process: a start, an NCatch c of paid with the key s, a task t at which
// an NOnMsg o of ship with that key sits, an end.
func catcher() api.Process {
	return api.Process{Id: "p", Nodes: []api.Node{
		{Kind: api.NStart, Parent: -1, Host: -1, Name: "s"},
		{Kind: api.NCatch, Parent: -1, Host: -1, Name: "c", Type: "paid", Key: "s"},
		{Kind: api.NTask, Parent: -1, Host: -1, Name: "t", Type: "pack", N: 3},
		{Kind: api.NOnMsg, Parent: -1, Host: 2, Name: "o", Type: "ship", Key: "s"},
		{Kind: api.NEnd, Parent: -1, Host: -1, Name: "e"},
	}, Flows: []api.Flow{{From: 0, To: 1}, {From: 1, To: 2}, {From: 2, To: 4}, {From: 3, To: 4}}}
}

// caught is a state with an instance of it on the partition 1, with the variable s =
// k: its key, and its token's, which waits at c.
func caught(t *testing.T) (s api.State, inst, token uint64) {
	t.Helper()
	w := flow.Begin(api.State{Procs: []api.Deployed{{Id: "p", Bytes: model.Bytes(catcher())}}}, 1, 1, 50)
	if err := w.Create("p", []api.Var{text("s", "k")}); err != api.OK {
		t.Fatal(err)
	}
	s = w.State()
	return s, s.Insts[0].Key, s.Tokens[0].Key
}

// What chapter 15's Arrive tells.
func kept(token uint64, node int64, message uint64) api.Record {
	return api.Record{Kind: api.EKept, Key: token, N: node, Key2: message}
}
func left(token uint64) api.Record { return api.Record{Kind: api.ELeft, Key: token} }
func varsOf(inst uint64, vars ...api.Var) api.Record {
	return api.Record{Kind: api.EVars, Key: inst, Vars: vars}
}
func entered(token, inst uint64, node, by int64) api.Record {
	return api.Record{Kind: api.EEntered, Key: token, Key2: inst, N: node, M: by}
}
func subscribed(token, inst uint64, node int64, name, key string) api.Record {
	return api.Record{Kind: api.ESub, Key: token, Key2: inst, N: node, A: name, B: key}
}
func job(key, token uint64) api.Record {
	return api.Record{Kind: api.EJob, Key: key, Key2: token, A: "pack", N: 3}
}
func passed(inst uint64, node int64) api.Record {
	return api.Record{Kind: api.EPassed, Key2: inst, N: node}
}
func ended(inst uint64) api.Record { return api.Record{Kind: api.EEnded, Key: inst} }

// P17.4: a message comes to a place that waits, at its own node and at one that breaks
// it off; once it has come, it is EDone.
func TestMatch(t *testing.T) {
	s, inst, token := caught(t)
	next := token + 1
	w := begin(s)
	w.mustDo(t, "its own node", match.Match, to(token, 1, 3, num("x", 1)),
		kept(token, 1, 3), varsOf(inst, text("s", "k"), num("x", 1)), left(token),
		entered(next, inst, 2, 1), subscribed(next, inst, 3, "ship", "k"), job(next+1, next))
	w.mustDo(t, "again", match.Match, to(token, 1, 3, num("x", 1)), done())
	w.mustDo(t, "again, with other variables", match.Match, to(token, 1, 3, num("s", 2)), done())
	w.mustDo(t, "another message", match.Match, to(token, 1, 4), done())
	w.mustDo(t, "that breaks it off", match.Match, to(next, 3, 3), kept(next, 3, 3), left(next), passed(inst, 3), passed(inst, 4), ended(inst))
	w.mustDo(t, "that again", match.Match, to(next, 3, 3), done())
	if got := w.State().Kept; !slices.Equal(got, []api.Kept{{Token: token, Message: 3, Node: 1}, {Token: next, Message: 3, Node: 3}}) {
		t.Errorf("%+v", got)
	}
}

// P17.4: an open subscription and one that isn't are waited for alike; the message 0 is
// one as others are.
func TestMatchOfAnySub(t *testing.T) {
	for _, open := range []bool{false, true} {
		for _, message := range []uint64{0, 1, math.MaxUint64} {
			s, inst, token := caught(t)
			s.Subs[0].Open = open
			w := begin(s)
			w.mustDo(t, fmt.Sprint(open, message), match.Match, to(token, 1, message), kept(token, 1, message), left(token),
				entered(token+1, inst, 2, 1), subscribed(token+1, inst, 3, "ship", "k"), job(token+2, token+1))
			w.mustDo(t, fmt.Sprint(open, message, " again"), match.Match, to(token, 1, message), done())
		}
	}
}

// P17.4: where nobody waits: EDone, whatever the variables are.
func TestMatchOfNone(t *testing.T) {
	s, inst, token := caught(t)
	w := begin(s)
	bad := num("No", 1)
	for _, r := range []api.Record{
		to(token, 0, 3), to(token, 2, 3), to(token, 3, 3), to(token, -1, 3), to(token, 1<<32+1, 3), to(token, math.MaxInt64, 3),
		to(inst, 1, 3), to(token+1, 1, 3), to(0, 0, 0), to(math.MaxUint64, 1, 3), to(5, 1, 3, bad), to(token, 2, 3, many(17)...),
	} {
		w.mustDo(t, fmt.Sprintf("%d %d", r.Key, r.N), match.Match, r, done())
	}
	begin(api.State{}).mustDo(t, "of the empty state", match.Match, to(0, 0, 0), done())
}

// P17.4: with that message kept it is EDone, though somebody waits there; another one
// arrives.
func TestMatchOfKept(t *testing.T) {
	s, inst, token := caught(t)
	s.Kept = []api.Kept{{Token: token, Message: 4, Node: 2}, {Token: token, Message: 3, Node: 1}, {Token: token, Message: 8, Node: 1}, {Token: token + 7, Message: 4, Node: 1}}
	w := begin(s)
	for _, message := range []uint64{3, 8} {
		w.mustDo(t, "kept", match.Match, to(token, 1, message, num("x", 1)), done())
	}
	w.mustDo(t, "kept elsewhere", match.Match, to(token, 1, 4), kept(token, 1, 4), left(token),
		entered(token+1, inst, 2, 1), subscribed(token+1, inst, 3, "ship", "k"), job(token+2, token+1))
}

// P17.4: where chapter 15's Arrive is refused, by whatever, its token is stuck, and
// nothing else happens.
func TestMatchRefused(t *testing.T) {
	s, _, token := caught(t)
	full := many(16)
	for what, x := range map[string]struct {
		change func(s *api.State)
		vars   []api.Var
	}{
		"no token":             {func(s *api.State) { s.Tokens = nil }, nil},
		"no instance":          {func(s *api.State) { s.Insts = nil }, nil},
		"no process":           {func(s *api.State) { s.Procs = nil }, nil},
		"no process that is":   {func(s *api.State) { s.Procs[0].Bytes = "x" }, nil},
		"a node that is none":  {func(s *api.State) { s.Tokens[0].Node = 5 }, nil},
		"no place for more":    {func(s *api.State) { s.Insts[0].Vars = full }, []api.Var{num("x", 1)}},
		"not right":            {func(s *api.State) {}, []api.Var{num("x", 1), num("a", 1)}},
		"too many":             {func(s *api.State) {}, many(17)},
		"too many bytes of it": {func(s *api.State) { s.Insts[0].Vars = bytesOf(t, 2900) }, []api.Var{text("x", long(1024)), text("y", long(1024))}},
	} {
		s, _, _ := caught(t)
		x.change(&s)
		w := begin(s)
		r := to(token, 1, 3, x.vars...)
		w.mustDo(t, what, match.Match, r, stuck(token))
		w.mustDo(t, what+", again", match.Match, r, stuck(token))
		if what == "no token" {
			continue
		}
		if got := w.State().Tokens[0].Stuck; got != "vars" {
			t.Errorf("%s: %q", what, got)
		}
	}
	s.Subs[0].Node = 9
	begin(s).mustDo(t, "a node of the place that is none", match.Match, to(token, 9, 3), stuck(token))
	s.Subs[0].Node = -1
	begin(s).mustDo(t, "a node below 0", match.Match, to(token, -1, 3), stuck(token))
}

// P17.4: events ahead that are too many for a batch: Arrive is refused by ErrLong.
func TestMatchBehindEvents(t *testing.T) {
	s, inst, token := caught(t)
	for _, ahead := range []int{250, 251} {
		w := begin(s)
		for range ahead {
			w.Emit(done())
		}
		if ahead == 250 {
			w.mustDo(t, "room for six", match.Match, to(token, 1, 3, num("x", 1)), kept(token, 1, 3), varsOf(inst, text("s", "k"), num("x", 1)),
				left(token), entered(token+1, inst, 2, 1), subscribed(token+1, inst, 3, "ship", "k"), job(token+2, token+1))
		} else {
			w.mustDo(t, "room for five", match.Match, to(token, 1, 3, num("x", 1)), stuck(token))
		}
	}
}

// P17.4: a token that is stuck by a message is resolved, and the new one waits for
// messages as it did.
func TestResolvedBehindMatch(t *testing.T) {
	s, inst, token := caught(t)
	w := begin(s)
	w.mustDo(t, "variables that aren't right", match.Match, to(token, 1, 3, num("No", 1)), stuck(token))
	if err := w.Resolve(token, nil); err != api.OK {
		t.Fatal(err)
	}
	next := token + 1
	w.mustDo(t, "the token that was stuck", match.Match, to(token, 1, 4), done())
	w.mustDo(t, "the new one", match.Match, to(next, 1, 4), kept(next, 1, 4), left(next),
		entered(next+1, inst, 2, 1), subscribed(next+1, inst, 3, "ship", "k"), job(next+2, next+1))
}

// P17.4, R3: variables that arrive are neither kept nor written into.
func TestMatchKeepsNothing(t *testing.T) {
	s, inst, token := caught(t)
	w := begin(s)
	vars := append(make([]api.Var, 0, 3), num("x", 1))
	r := to(token, 1, 3)
	r.Vars = vars
	if err := match.Match(w.Work, r); err != api.OK {
		t.Fatal(err)
	}
	if !slices.Equal(vars[:3], []api.Var{num("x", 1), {}, {}}) {
		t.Errorf("%+v", vars[:3])
	}
	clear(vars)
	w.mustTell(t, "cleared", nil, kept(token, 1, 3), varsOf(inst, text("s", "k"), num("x", 1)), left(token),
		entered(token+1, inst, 2, 1), subscribed(token+1, inst, 3, "ship", "k"), job(token+2, token+1))
}
