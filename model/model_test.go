package model_test

import (
	"fmt"
	"slices"
	"strings"
	"testing"

	"wherry/api"
	"wherry/model"
)

// node is one of a kind, with all that its kind must have; of NOnMsg and NOnTime
// the host is left to who asks.
func node(kind int, name string) api.Node {
	n := api.Node{Kind: kind, Parent: -1, Host: -1, Name: name}
	switch kind {
	case api.NTask:
		n.Type, n.N = "pay", 3
	case api.NCatch, api.NOnMsg:
		n.Type, n.Key = "paid", "k"
	case api.NTimer, api.NOnTime:
		n.N = 5
	}
	return n
}

// in is a node within an NSub, at is one that sits at a host.
func in(parent int, n api.Node) api.Node {
	n.Parent = parent
	return n
}

func at(host int, n api.Node) api.Node {
	n.Host = host
	return n
}

// flow is one without a condition, when is one with it.
func flow(from, to int) api.Flow              { return api.Flow{From: from, To: to} }
func when(from, to int, cond string) api.Flow { return api.Flow{From: from, To: to, Cond: cond} }

func process(nodes []api.Node, flows ...api.Flow) api.Process {
	return api.Process{Id: "p", Nodes: nodes, Flows: flows}
}

func times(n int, s string) string { return strings.Repeat(s, n) }

// line is the chapter's first example.
func line() api.Process {
	return process([]api.Node{node(api.NStart, "s"), node(api.NTask, "t"), node(api.NEnd, "e")}, flow(0, 1), flow(1, 2))
}

// through is a line with a node of the kind in the middle, and what that needs.
func through(kind int) api.Process {
	p := line()
	p.Nodes[1] = node(kind, "t")
	if kind == api.NSub {
		p.Nodes = append(p.Nodes, in(1, node(api.NStart, "is")), in(1, node(api.NEnd, "ie")))
		p.Flows = append(p.Flows, flow(3, 4))
	}
	return p
}

// hosted is a line with a node of the kind that sits at its task.
func hosted(kind int) api.Process {
	p := line()
	p.Nodes = append(p.Nodes, at(1, node(kind, "b")))
	p.Flows = append(p.Flows, flow(3, 2))
	return p
}

// all is a process with nodes of every kind, in two scopes within one another.
func all() api.Process {
	return process([]api.Node{
		0:  node(api.NStart, "s"),
		1:  node(api.NXor, "x"),
		2:  node(api.NTask, "t"),
		3:  node(api.NCatch, "c"),
		4:  node(api.NTimer, "w"),
		5:  node(api.NSub, "u"),
		6:  in(5, node(api.NStart, "us")),
		7:  in(5, node(api.NAnd, "ua")),
		8:  in(5, node(api.NSub, "uu")),
		9:  in(8, node(api.NStart, "uus")),
		10: in(8, node(api.NEnd, "uue")),
		11: in(5, node(api.NAnd, "ub")),
		12: in(5, node(api.NEnd, "ue")),
		13: node(api.NEnd, "e"),
		14: at(2, node(api.NOnMsg, "m")),
		15: at(5, node(api.NOnTime, "l")),
		16: in(5, at(8, node(api.NOnTime, "ul"))),
		17: at(2, node(api.NOnTime, "l2")),
	},
		flow(0, 1), when(1, 2, "a > 1"), when(1, 3, `b == "x"`), flow(1, 4),
		flow(2, 5), flow(3, 5), flow(4, 5), flow(5, 13),
		flow(6, 7), flow(7, 8), flow(7, 11), flow(8, 11), flow(11, 12), flow(9, 10),
		flow(14, 13), flow(15, 1), flow(16, 12), flow(17, 1),
	)
}

// copied is a process that shares nothing with p.
func copied(p api.Process) api.Process {
	p.Nodes, p.Flows = slices.Clone(p.Nodes), slices.Clone(p.Flows)
	return p
}

func same(p, q api.Process) bool {
	return p.Id == q.Id && slices.Equal(p.Nodes, q.Nodes) && slices.Equal(p.Flows, q.Flows)
}

// wide is a process that may be with that many nodes, from 3 on, and flows, from
// one less than the nodes on: a start, a row of NXor, an end.
func wide(nodes, flows int) api.Process {
	p := process([]api.Node{node(api.NStart, "s")}, flow(0, 1))
	for i := 1; i < nodes-1; i++ {
		p.Nodes = append(p.Nodes, node(api.NXor, fmt.Sprintf("x%d", i)))
		p.Flows = append(p.Flows, flow(i, i+1))
	}
	p.Nodes = append(p.Nodes, node(api.NEnd, "e"))
	for len(p.Flows) < flows {
		p.Flows = append(p.Flows, when(1, 2, "a"))
	}
	return p
}

// good are processes that may be, of all kinds of nodes and at the bounds.
func good() map[string]api.Process {
	m := map[string]api.Process{
		"line": line(), "all": all(), "3 nodes": wide(3, 2), "40 nodes": wide(40, 39), "80 flows": wide(40, 80), "3 nodes, 80 flows": wide(3, 80),
		"a start that leads to the end": process([]api.Node{node(api.NStart, "s"), node(api.NEnd, "e")}, flow(0, 1)),
		"long names":                    long(32, 32, 512),
	}
	for _, kind := range []int{api.NTask, api.NXor, api.NAnd, api.NCatch, api.NTimer, api.NSub} {
		m[fmt.Sprintf("through a node of kind %d", kind)] = through(kind)
	}
	for _, kind := range []int{api.NOnMsg, api.NOnTime} {
		m[fmt.Sprintf("kind %d at a task", kind)] = hosted(kind)
	}
	return m
}

// long is a process with names, types, and keys and conditions of so many bytes.
func long(name, kind, key int) api.Process {
	p := process([]api.Node{node(api.NStart, "s"), node(api.NCatch, times(name, "n")), node(api.NXor, "x"), node(api.NEnd, "e")},
		flow(0, 1), flow(1, 2), when(2, 3, "1"+times(key-1, " ")))
	p.Id = times(name, "i")
	p.Nodes[1].Type, p.Nodes[1].Key = times(kind, "t"), "a"+times(key-1, "\n")
	return p
}

// bad are processes that may not be.
func bad() map[string]api.Process {
	gone := line()
	gone.Flows = nil
	far := line()
	far.Flows = append(far.Flows, flow(-1, 3), flow(1<<40, -1<<40), when(2, 2, "\xff"))
	odd := line()
	odd.Nodes[0] = api.Node{Kind: -7, Parent: 1 << 62, Host: -1 << 63, Name: "\x00", Type: times(5000, "t"), Key: "((", N: -1 << 63}
	return map[string]api.Process{
		"none": {}, "no nodes": {Id: "p"}, "no name": {Nodes: line().Nodes, Flows: line().Flows}, "no flows": gone, "flows to nowhere": far, "an odd node": odd,
		"41 nodes": wide(41, 40), "81 flows": wide(3, 81), "300 nodes": wide(300, 2000), "too long a name": long(33, 32, 512), "too long a type": long(32, 33, 512), "too long a key": long(32, 32, 513),
	}
}

// P11.2, P11.4: the chapter's examples.
func TestExamples(t *testing.T) {
	mustBe(t, "line", line())
	p := line()
	p.Flows = p.Flows[:1]
	mustNotBe(t, "without the second flow", p, 1)
	x := process([]api.Node{node(api.NStart, "s"), node(api.NXor, "x"), node(api.NXor, "x2"), node(api.NEnd, "e")},
		flow(0, 1), flow(1, 2), flow(2, 1), when(2, 3, "true"))
	mustBe(t, "x to x2 and back", x)
	if !model.Loops(x) || model.Loops(line()) {
		t.Errorf("Loops: %t, of the line %t", model.Loops(x), model.Loops(line()))
	}
}

// R3: what is handed in is as it was, its spare room too.
func TestNothingIsWritten(t *testing.T) {
	for _, set := range []map[string]api.Process{good(), bad()} {
		for what, p := range set {
			nodes, flows := append(slices.Clone(p.Nodes), node(7, "spare")), append(slices.Clone(p.Flows), flow(7, 7))
			q := api.Process{Id: p.Id, Nodes: nodes[:len(p.Nodes)], Flows: flows[:len(p.Flows)]}
			model.Bytes(q)
			model.Check(q)
			model.Loops(q)
			for i := -2; i < 5; i++ {
				model.Outs(q, i)
				model.Ins(q, i)
				model.On(q, i)
				model.Start(q, i)
			}
			if !same(p, q) || nodes[len(p.Nodes)] != node(7, "spare") || flows[len(p.Flows)] != flow(7, 7) {
				t.Errorf("%s: has changed", what)
			}
		}
	}
}

// R3: what comes out shares nothing with another answer; R4: the same is answered
// again.
func TestAnswersAreNew(t *testing.T) {
	p := all()
	for what, ask := range map[string]func(api.Process, int) []int{"Outs": model.Outs, "Ins": model.Ins, "On": model.On} {
		for i := range p.Nodes {
			was := slices.Clone(ask(p, i))
			l := ask(p, i)
			clear(l[:cap(l)])
			if !slices.Equal(ask(p, i), was) {
				t.Errorf("%s(%d): %v, was %v", what, i, ask(p, i), was)
			}
		}
	}
	s := model.Bytes(p)
	q, _ := model.Take(s)
	clear(q.Nodes[:cap(q.Nodes)])
	clear(q.Flows[:cap(q.Flows)])
	if r, err := model.Take(s); err != api.OK || !same(r, p) || !same(p, all()) {
		t.Errorf("Take: %v, %d", r, err)
	}
}
