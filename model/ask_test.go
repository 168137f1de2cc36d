package model_test

import (
	"math"
	"slices"
	"testing"

	"wherry/api"
	"wherry/model"
)

// numbers are those at which to ask of a process: below 0, all places of nodes and
// flows, beyond them.
func numbers(p api.Process) []int {
	l := []int{math.MinInt, -1 << 32, -1000, 1000, 1 << 32, 1<<32 + 1, math.MaxInt}
	for i := -3; i < max(len(p.Nodes), len(p.Flows))+3; i++ {
		l = append(l, i)
	}
	return l
}

// mustTell: these places, and no others, in this order.
func mustTell(t *testing.T, what string, node int, got []int, want ...int) {
	t.Helper()
	if !slices.Equal(got, want) {
		t.Errorf("%s(%d): %v, want %v", what, node, got, want)
	}
}

// P11.3: of a process that may be, written out.
func TestAskWrittenOut(t *testing.T) {
	p := all()
	mustTell(t, "Outs", 0, model.Outs(p, 0), 0)
	mustTell(t, "Outs", 1, model.Outs(p, 1), 1, 2, 3)
	mustTell(t, "Outs", 7, model.Outs(p, 7), 9, 10)
	mustTell(t, "Outs", 13, model.Outs(p, 13))
	mustTell(t, "Outs", 14, model.Outs(p, 14), 14)
	mustTell(t, "Outs", 17, model.Outs(p, 17), 17)
	mustTell(t, "Outs", 18, model.Outs(p, 18))
	mustTell(t, "Outs", -1, model.Outs(p, -1))
	mustTell(t, "Ins", 0, model.Ins(p, 0))
	mustTell(t, "Ins", 1, model.Ins(p, 1), 0, 15, 17)
	mustTell(t, "Ins", 5, model.Ins(p, 5), 4, 5, 6)
	mustTell(t, "Ins", 14, model.Ins(p, 14))
	mustTell(t, "Ins", 18, model.Ins(p, 18))
	mustTell(t, "Ins", -1, model.Ins(p, -1))
	mustTell(t, "On", 2, model.On(p, 2), 14, 17)
	mustTell(t, "On", 5, model.On(p, 5), 15)
	mustTell(t, "On", 8, model.On(p, 8), 16)
	mustTell(t, "On", 0, model.On(p, 0))
	mustTell(t, "On", 18, model.On(p, 18))
	mustTell(t, "On", -2, model.On(p, -2))
	mustTell(t, "On", -1, model.On(p, -1), 0, 1, 2, 3, 4, 5, 6, 7, 8, 9, 10, 11, 12, 13)
	for scope, want := range map[int]int{-1: 0, 5: 6, 8: 9, 0: -1, 1: -1, 4: -1, 6: -1, 17: -1, 18: -1, -2: -1, math.MaxInt: -1, math.MinInt: -1} {
		if at := model.Start(p, scope); at != want {
			t.Errorf("Start(%d): %d, want %d", scope, at, want)
		}
	}
}

// P11.3: of processes that may not be: numbers that are no places, too; of two
// starts the first one.
func TestAskOfOthers(t *testing.T) {
	p := api.Process{Nodes: []api.Node{
		{Kind: api.NEnd, Parent: 3, Host: 3}, {Kind: api.NStart, Parent: 7, Host: -5}, {Kind: api.NStart, Parent: 3, Host: 1 << 40}, {Kind: api.NStart, Parent: 3, Host: 3}, {Kind: 99, Parent: 9, Host: 4}, {Kind: api.NStart, Parent: -9},
	}, Flows: []api.Flow{flow(-5, 9), flow(9, -5), flow(9, 9), flow(0, 1<<40), flow(1<<40, 9)}}
	mustTell(t, "Outs", -5, model.Outs(p, -5), 0)
	mustTell(t, "Outs", 9, model.Outs(p, 9), 1, 2)
	mustTell(t, "Outs", 1<<40, model.Outs(p, 1<<40), 4)
	mustTell(t, "Ins", 9, model.Ins(p, 9), 0, 2, 4)
	mustTell(t, "Ins", -5, model.Ins(p, -5), 1)
	mustTell(t, "Ins", 1<<40, model.Ins(p, 1<<40), 3)
	mustTell(t, "On", 3, model.On(p, 3), 0, 3)
	mustTell(t, "On", -5, model.On(p, -5), 1)
	mustTell(t, "On", 1<<40, model.On(p, 1<<40), 2)
	mustTell(t, "On", 4, model.On(p, 4), 4)
	mustTell(t, "On", -1, model.On(p, -1))
	for scope, want := range map[int]int{7: 1, 3: 2, 9: -1, -9: 5, -1: -1, 0: -1} {
		if at := model.Start(p, scope); at != want {
			t.Errorf("Start(%d): %d, want %d", scope, at, want)
		}
	}
}

// P11.3: as the words say, at all numbers and of all processes.
func TestAsk(t *testing.T) {
	for _, set := range []map[string]api.Process{good(), bad()} {
		for what, p := range set {
			for _, i := range numbers(p) {
				var outs, ins, on []int
				start := -1
				for j, f := range p.Flows {
					if f.From == i {
						outs = append(outs, j)
					}
					if f.To == i {
						ins = append(ins, j)
					}
				}
				for k := len(p.Nodes) - 1; k >= 0; k-- {
					if p.Nodes[k].Host == i {
						on = slices.Insert(on, 0, k)
					}
					if p.Nodes[k].Kind == api.NStart && p.Nodes[k].Parent == i {
						start = k
					}
				}
				mustTell(t, what+": Outs", i, model.Outs(p, i), outs...)
				mustTell(t, what+": Ins", i, model.Ins(p, i), ins...)
				mustTell(t, what+": On", i, model.On(p, i), on...)
				if at := model.Start(p, i); at != start {
					t.Errorf("%s: Start(%d): %d, want %d", what, i, at, start)
				}
			}
		}
	}
}
