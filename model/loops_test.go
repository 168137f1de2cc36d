package model_test

import (
	"fmt"
	"testing"

	"wherry/api"
	"wherry/model"
)

// mustLoop: a process that may be loops, or doesn't.
func mustLoop(t *testing.T, what string, p api.Process, want bool) {
	t.Helper()
	mustBe(t, what, p)
	if model.Loops(p) != want {
		t.Errorf("Loops(%s): %t", what, !want)
	}
}

// round is a process that goes round by an NXor and nodes of these kinds behind
// it, the last of which leads back.
func round(kinds ...int) api.Process {
	p := process([]api.Node{node(api.NStart, "s"), node(api.NEnd, "e"), node(api.NXor, "x")}, flow(0, 2), flow(2, 1))
	from, cond := 2, "a"
	for i, kind := range kinds {
		p.Nodes = append(p.Nodes, node(kind, fmt.Sprintf("n%d", i)))
		to := len(p.Nodes) - 1
		p.Flows = append(p.Flows, when(from, to, cond))
		from, cond = to, ""
		if kind == api.NSub {
			p.Nodes = append(p.Nodes, in(to, node(api.NStart, fmt.Sprintf("s%d", i))), in(to, node(api.NEnd, fmt.Sprintf("e%d", i))))
			p.Flows = append(p.Flows, flow(to+1, to+2))
		}
	}
	p.Flows = append(p.Flows, when(from, 2, cond))
	return p
}

// P11.4: round by each kind of node, alone, ahead of others and behind them.
func TestLoops(t *testing.T) {
	mustLoop(t, "line", line(), false)
	mustLoop(t, "all", all(), false)
	mustLoop(t, "an NXor that leads to itself", round(), true)
	for _, kind := range []int{api.NTask, api.NXor, api.NAnd, api.NCatch, api.NTimer, api.NSub} {
		want := kind == api.NXor || kind == api.NAnd
		mustLoop(t, fmt.Sprintf("through kind %d", kind), through(kind), false)
		mustLoop(t, fmt.Sprintf("round by kind %d", kind), round(kind), want)
		mustLoop(t, fmt.Sprintf("round by kind %d and an NXor", kind), round(kind, api.NXor), want)
		mustLoop(t, fmt.Sprintf("round by NAnds and kind %d", kind), round(api.NAnd, api.NAnd, kind), want)
		mustLoop(t, fmt.Sprintf("round by kind %d between", kind), round(api.NXor, kind, api.NAnd), want)
	}
}

// P11.4: the length of the way is nothing to it: of 40 nodes all but a start and
// an end are on it.
func TestLoopsFar(t *testing.T) {
	p := wide(40, 39)
	mustLoop(t, "far, and not back", p, false)
	p.Flows = append(p.Flows, when(38, 1, "a"))
	mustLoop(t, "far, and back", p, true)
	p.Flows[39].To = 38
	mustLoop(t, "the last one to itself", p, true)
	p.Flows[39] = when(1, 38, "a")
	mustLoop(t, "a shorter way on", p, false)
	p.Flows = append(p.Flows, when(5, 4, "a"))
	mustLoop(t, "one back in the middle", p, true)
	p.Nodes[4] = node(api.NTimer, "w")
	mustLoop(t, "one back to one that waits", p, false)
}

// P11.4: a node that waits and leads to itself doesn't loop, one that doesn't wait
// does, whether a way leads there or not.
func TestLoopsOfItself(t *testing.T) {
	for _, kind := range []int{api.NTask, api.NXor, api.NAnd, api.NCatch, api.NTimer} {
		p := line()
		p.Nodes = append(p.Nodes, node(kind, "own"))
		p.Flows = append(p.Flows, flow(3, 3))
		mustLoop(t, fmt.Sprintf("kind %d to itself", kind), p, kind == api.NXor || kind == api.NAnd)
	}
	p := through(api.NSub)
	p.Flows[0].To = 2
	p.Flows[1].To = 1
	mustLoop(t, "an NSub to itself", p, false)
}

// P11.4: two ways round of which one waits.
func TestLoopsByOneOfTwoWays(t *testing.T) {
	nodes := []api.Node{node(api.NStart, "s"), node(api.NXor, "x"), node(api.NTask, "t"), node(api.NAnd, "a"), node(api.NEnd, "e")}
	p := process(nodes, flow(0, 1), when(1, 2, "a"), when(1, 3, "b"), flow(1, 4), flow(2, 1), flow(3, 1))
	mustLoop(t, "one waits, one doesn't", p, true)
	p.Nodes[3] = node(api.NCatch, "c")
	mustLoop(t, "both wait", p, false)
	p.Nodes[2] = node(api.NAnd, "a")
	mustLoop(t, "the other one doesn't", p, true)
	p.Flows[4].To = 4
	mustLoop(t, "the other one leads away", p, false)
}

// P11.4: nodes that follow one another without leading back, by two ways.
func TestLoopsNotWhereWaysMeet(t *testing.T) {
	nodes := []api.Node{node(api.NStart, "s"), node(api.NAnd, "a"), node(api.NXor, "b"), node(api.NXor, "c"), node(api.NAnd, "d"), node(api.NEnd, "e")}
	p := process(nodes, flow(0, 1), flow(1, 2), flow(1, 3), flow(2, 4), flow(3, 4), flow(4, 5))
	mustLoop(t, "a fork and a join", p, false)
	p.Flows = append(p.Flows, when(3, 2, "x"))
	mustLoop(t, "a way across", p, false)
	p.Flows = append(p.Flows, when(2, 3, "x"))
	mustLoop(t, "and back", p, true)
}

// P11.4: round within an NSub, and by a node that sits at one.
func TestLoopsWithin(t *testing.T) {
	p := through(api.NSub)
	p.Nodes = append(p.Nodes, in(1, node(api.NXor, "ix")))
	p.Flows[2].To = 5
	p.Flows = append(p.Flows, flow(5, 4), when(5, 5, "a"))
	mustLoop(t, "round within", p, true)
	p.Nodes = append(p.Nodes, in(1, node(api.NTask, "it")))
	p.Flows[4].To = 6
	p.Flows = append(p.Flows, flow(6, 5))
	mustLoop(t, "round by a task within", p, false)
	for _, kind := range []int{api.NOnMsg, api.NOnTime} {
		q := hosted(kind)
		q.Flows[2].To = 1
		mustLoop(t, fmt.Sprintf("kind %d back to its host", kind), q, false)
		q.Nodes = append(q.Nodes, node(api.NXor, "x"), node(api.NXor, "y"))
		q.Flows[2].To = 4
		q.Flows = append(q.Flows, flow(4, 5), flow(5, 1))
		mustLoop(t, fmt.Sprintf("kind %d by two back to its host", kind), q, false)
		q.Flows = append(q.Flows, when(5, 4, "a"))
		mustLoop(t, fmt.Sprintf("kind %d to what goes round", kind), q, true)
	}
}

// P11.4: of a process that may not be: false, though its flows lead round.
func TestLoopsOfOthers(t *testing.T) {
	for what, p := range bad() {
		if model.Loops(p) {
			t.Errorf("Loops(%s)", what)
		}
	}
	for what, change := range map[string]func(p *api.Process){
		"no name":         func(p *api.Process) { p.Id = "" },
		"a wrong node":    func(p *api.Process) { p.Nodes[0].N = 1 },
		"two starts":      func(p *api.Process) { p.Nodes = append(p.Nodes, node(api.NStart, "s2")) },
		"a wrong flow":    func(p *api.Process) { p.Flows[0].Cond = "a" },
		"to nowhere":      func(p *api.Process) { p.Flows = append(p.Flows, when(2, 99, "b")) },
		"from nowhere":    func(p *api.Process) { p.Flows = append(p.Flows, when(-1, 2, "b")) },
		"no way in":       func(p *api.Process) { p.Nodes = append(p.Nodes, node(api.NEnd, "e2")) },
		"a start no more": func(p *api.Process) { p.Nodes[0].Kind = api.NXor },
		"41 nodes": func(p *api.Process) {
			for len(p.Nodes) < 41 {
				p.Nodes = append(p.Nodes, node(api.NEnd, fmt.Sprintf("e%d", len(p.Nodes))))
				p.Flows = append(p.Flows, when(2, len(p.Nodes)-1, "b"))
			}
		},
	} {
		p := round(api.NXor)
		mustLoop(t, "round", p, true)
		change(&p)
		if err, _ := model.Check(p); err == api.OK || model.Loops(p) {
			t.Errorf("Loops(%s): %t, Check %d", what, model.Loops(p), err)
		}
	}
}
