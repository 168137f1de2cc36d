package fold_test

import (
	"math"
	"testing"

	"wherry/api"
)

// P13.1: a job that is taken, and one that is back; of one that is not there,
// nothing.
func TestJobs(t *testing.T) {
	full := api.Record{Time: 9, Key2: 24, Key3: 24, N: 70, M: 6, A: "z", B: "b", C: "c", Vars: vars(1)}
	of := func(kind int, key uint64) api.Record {
		r := full
		r.Kind, r.Key = kind, key
		return r
	}
	mustFold(t, "taken", of(api.ETaken, 20), func(s *api.State) { s.Jobs[0].Worker, s.Jobs[0].Until = "z", 70 })
	mustFold(t, "taken again", of(api.ETaken, 22), func(s *api.State) { s.Jobs[1].Worker, s.Jobs[1].Until = "z", 70 })
	mustFold(t, "taken by nobody", api.Record{Kind: api.ETaken, Key: 22}, func(s *api.State) { s.Jobs[1].Worker, s.Jobs[1].Until = "", 0 })
	mustFold(t, "taken, until the greatest", api.Record{Kind: api.ETaken, Key: 24, N: math.MaxInt64}, func(s *api.State) { s.Jobs[2].Until = math.MaxInt64 })
	mustFold(t, "taken, until the least", api.Record{Kind: api.ETaken, Key: 24, N: math.MinInt64}, func(s *api.State) { s.Jobs[2].Until = math.MinInt64 })
	mustFold(t, "back", of(api.EBack, 22), func(s *api.State) { s.Jobs[1].Retries, s.Jobs[1].Worker, s.Jobs[1].Until = 70, "", 0 })
	mustFold(t, "back, of nobody", of(api.EBack, 20), func(s *api.State) { s.Jobs[0].Retries = 70 })
	mustFold(t, "back, no retries", api.Record{Kind: api.EBack, Key: 22}, func(s *api.State) { s.Jobs[1].Retries, s.Jobs[1].Worker, s.Jobs[1].Until = 0, "", 0 })
	mustFold(t, "back, less than none", api.Record{Kind: api.EBack, Key: 20, N: -1 << 40}, func(s *api.State) { s.Jobs[0].Retries = -1 << 40 })
	for _, key := range []uint64{0, 10, 19, 21, 25, 20 + 1<<32, math.MaxUint64} {
		mustFold(t, "taken, not there", of(api.ETaken, key), nothing)
		mustFold(t, "back, not there", of(api.EBack, key), nothing)
	}
	mustFoldInto(t, "taken, no jobs", api.State{}, of(api.ETaken, 0), nothing)
	mustFoldInto(t, "back, no jobs", api.State{}, of(api.EBack, 0), nothing)
}

// P13.1: an instance's variables are all others; of one that is not there, nothing.
func TestVars(t *testing.T) {
	l := []api.Var{num("a", 1), text("b", "x")}
	of := func(key uint64, l []api.Var) api.Record {
		return api.Record{Kind: api.EVars, Time: 9, Key: key, Key2: 7, Key3: 7, N: 7, A: "z", Vars: l}
	}
	mustFold(t, "the first", of(5, l), func(s *api.State) { s.Insts[0].Vars = l })
	mustFold(t, "the last", of(7, l), func(s *api.State) { s.Insts[1].Vars = l })
	mustFold(t, "none", of(7, nil), func(s *api.State) { s.Insts[1].Vars = nil })
	mustFold(t, "an empty list", of(7, []api.Var{}), func(s *api.State) { s.Insts[1].Vars = nil })
	odd := []api.Var{{}, num("z", 1), num("a", 1), num("a", 2)}
	mustFold(t, "variables that aren't right", of(5, odd), func(s *api.State) { s.Insts[0].Vars = odd })
	for _, key := range []uint64{0, 4, 6, 8, 10, math.MaxUint64} {
		mustFold(t, "not there", of(key, l), nothing)
	}
	mustFoldInto(t, "no instances", api.State{}, of(0, l), nothing)
}

// P13.1: a subscription is open, by its token and its node.
func TestOpen(t *testing.T) {
	of := func(key uint64, n int64) api.Record {
		return api.Record{Kind: api.EOpen, Time: 9, Key: key, Key2: 7, Key3: 7, N: n, M: 4, A: "z", B: "z", Vars: vars(1)}
	}
	mustFold(t, "the first", of(10, 1), func(s *api.State) { s.Subs[0].Open = true })
	mustFold(t, "one that is open", of(12, 1), nothing)
	mustFold(t, "another node of that token", of(12, 4), func(s *api.State) { s.Subs[2].Open = true })
	mustFold(t, "the last", of(14, 1), func(s *api.State) { s.Subs[3].Open = true })
	for _, x := range []struct {
		key uint64
		n   int64
	}{{10, 0}, {10, 2}, {10, 4}, {10, -1}, {11, 1}, {0, 1}, {5, 1}, {10, 1<<32 + 1}, {10 + 1<<32, 1}, {1, 10}} {
		mustFold(t, "not there", of(x.key, x.n), nothing)
	}
	mustFoldInto(t, "no subscriptions", api.State{}, of(0, 0), nothing)
}

// P13.1: a token is stuck, and free again.
func TestStuckAndFreed(t *testing.T) {
	of := func(kind int, key uint64, why string) api.Record {
		return api.Record{Kind: kind, Time: 9, Key: key, Key2: 14, Key3: 14, N: 14, A: why, B: "z", Vars: vars(1)}
	}
	mustFold(t, "stuck", of(api.EStuck, 10, "cond"), func(s *api.State) { s.Tokens[0].Stuck = "cond" })
	mustFold(t, "stuck again", of(api.EStuck, 12, "way"), func(s *api.State) { s.Tokens[1].Stuck = "way" })
	mustFold(t, "stuck for nothing", of(api.EStuck, 12, ""), func(s *api.State) { s.Tokens[1].Stuck = "" })
	mustFold(t, "free", of(api.EFreed, 12, "cond"), func(s *api.State) { s.Tokens[1].Stuck = "" })
	mustFold(t, "free, but not stuck", of(api.EFreed, 14, "cond"), nothing)
	for _, key := range []uint64{0, 5, 9, 11, 13, 15, 20, 10 + 1<<32, math.MaxUint64} {
		mustFold(t, "stuck, not there", of(api.EStuck, key, "cond"), nothing)
		mustFold(t, "free, not there", of(api.EFreed, key, "cond"), nothing)
	}
	mustFoldInto(t, "stuck, no tokens", api.State{}, of(api.EStuck, 0, "cond"), nothing)
	mustFoldInto(t, "free, no tokens", api.State{}, of(api.EFreed, 0, "cond"), nothing)
}

// twice has each key twice, behind one that is above it.
func twice() api.State {
	return api.State{
		Insts:    []api.Instance{{Key: 9}, {Key: 5, Id: "a"}, {Key: 5, Id: "b", Vars: vars(2)}},
		Tokens:   []api.Token{{Key: 9, Stuck: "x"}, {Key: 5, Inst: 1, Stuck: "y"}, {Key: 5, Inst: 2, Stuck: "z"}},
		Jobs:     []api.Job{{Key: 9}, {Key: 5, Type: "a", Worker: "v", Until: 3}, {Key: 5, Type: "b", Worker: "w", Until: 4}},
		Subs:     []api.Sub{{Token: 9, Node: 2}, {Token: 5, Node: 2, Name: "a"}, {Token: 5, Node: 2, Name: "b"}},
		Listed:   []api.Listed{{Token: 9, Node: 2}, {Token: 5, Node: 2, Inst: 11}, {Token: 5, Node: 2, Inst: 12}},
		Messages: []api.Message{{Key: 9}, {Key: 5, Vars: vars(1), Insts: []uint64{12, 11}}, {Key: 5, Vars: vars(2), Insts: []uint64{12, 11}}},
	}
}

// P13.1: of a key that stands twice, the first one alone is changed.
func TestChangeOfTheFirst(t *testing.T) {
	r := func(kind int) api.Record {
		return api.Record{Kind: kind, Key: 5, Key2: 5, N: 2, A: "new", Vars: vars(8)}
	}
	mustFoldInto(t, "ETaken", twice(), r(api.ETaken), func(s *api.State) { s.Jobs[1].Worker, s.Jobs[1].Until = "new", 2 })
	mustFoldInto(t, "EBack", twice(), r(api.EBack), func(s *api.State) { s.Jobs[1].Retries, s.Jobs[1].Worker, s.Jobs[1].Until = 2, "", 0 })
	mustFoldInto(t, "EVars", twice(), r(api.EVars), func(s *api.State) { s.Insts[1].Vars = vars(8) })
	mustFoldInto(t, "EOpen", twice(), r(api.EOpen), func(s *api.State) { s.Subs[1].Open = true })
	mustFoldInto(t, "EStuck", twice(), r(api.EStuck), func(s *api.State) { s.Tokens[1].Stuck = "new" })
	mustFoldInto(t, "EFreed", twice(), r(api.EFreed), func(s *api.State) { s.Tokens[1].Stuck = "" })
	mustFoldInto(t, "ESending", twice(), r(api.ESending), func(s *api.State) {
		s.Listed[1].Message, s.Listed[1].Vars = 5, vars(1)
		s.Messages[1].Insts = []uint64{12, 11, 11}
	})
	mustFoldInto(t, "EMissed", twice(), r(api.EMissed), func(s *api.State) {
		s.Listed = s.Listed[:1]
		s.Messages[1].Insts = []uint64{12}
	})
}
