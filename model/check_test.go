package model_test

import (
	"fmt"
	"math"
	"slices"
	"testing"

	"wherry/api"
	"wherry/model"
)

// mustBe: the process may be.
func mustBe(t *testing.T, what string, p api.Process) {
	t.Helper()
	if err, at := model.Check(p); err != api.OK || at != -1 {
		t.Errorf("Check(%s): %d at %d", what, err, at)
	}
}

// mustNotBe: it may not be, because of what is there.
func mustNotBe(t *testing.T, what string, p api.Process, want int) {
	t.Helper()
	if err, at := model.Check(p); err != api.ErrModel || at != want {
		t.Errorf("Check(%s): %d at %d, want %d at %d", what, err, at, api.ErrModel, want)
	}
}

// mustBeOr: it may be, if ok says so; else it may not, because of what is there.
func mustBeOr(t *testing.T, what string, p api.Process, ok bool, at int) {
	t.Helper()
	if ok {
		mustBe(t, what, p)
	} else {
		mustNotBe(t, what, p, at)
	}
}

// set is p with one node changed.
func set(p api.Process, i int, change func(n *api.Node)) api.Process {
	p = copied(p)
	change(&p.Nodes[i])
	return p
}

// noNames are texts that are no names.
func noNames() []string {
	return []string{"", "A", "1", "_", "a b", "a-", "aB", "é", "\x00", " a", "a ", "and", "or", "not", "true", "false", "len", times(33, "n"), times(5000, "n")}
}

// names are some that are.
func names() []string {
	return []string{"a", "z", "a1", "a_", "ands", "an", "length", "tru", times(32, "n")}
}

// noExprs are texts that Parse refuses, exprs some that it doesn't.
func noExprs() []string {
	return []string{" ", "1 +", "(", ")", "a b", "A", "\xff", "01", times(513, " "), "a" + times(512, " "), times(21, "(") + "a" + times(21, ")"), `"`}
}

func exprs() []string {
	return []string{"a", "1", "true", `"x"`, "a > 1 and not b", "len(a + b)", "1 / 0", "not 1", "a" + times(511, " ")}
}

// P11.2: processes that may be.
func TestMayBe(t *testing.T) {
	for what, p := range good() {
		mustBe(t, what, p)
	}
	for what, p := range bad() {
		if err, _ := model.Check(p); err != api.ErrModel {
			t.Errorf("Check(%s): %d", what, err)
		}
	}
}

// P11.2, place 1: the whole.
func TestCheckWhole(t *testing.T) {
	p := line()
	for _, p.Id = range names() {
		mustBe(t, p.Id, p)
	}
	for _, p.Id = range noNames() {
		mustNotBe(t, p.Id, p, -1)
	}
	mustNotBe(t, "no nodes", process(nil), -1)
	mustNotBe(t, "no nodes, a flow", process(nil, flow(0, 0)), -1)
	mustNotBe(t, "nothing", api.Process{}, -1)
	for _, x := range []struct {
		nodes, flows int
		ok           bool
	}{{39, 38, true}, {40, 39, true}, {41, 40, false}, {100, 99, false}, {3, 79, true}, {3, 80, true}, {3, 81, false}, {40, 80, true}, {40, 81, false}, {41, 81, false}, {3, 1000, false}} {
		mustBeOr(t, fmt.Sprintf("%d nodes, %d flows", x.nodes, x.flows), wide(x.nodes, x.flows), x.ok, -1)
	}
}

// P11.2, place 2: kinds that are none.
func TestCheckKinds(t *testing.T) {
	for _, kind := range []int{0, -1, 11, 12, 255, 256 + api.NXor, 1<<32 + api.NXor, math.MinInt, math.MaxInt} {
		p := through(api.NXor)
		p.Nodes[1].Kind = kind
		mustNotBe(t, fmt.Sprintf("kind %d", kind), p, 1)
	}
}

// P11.2, place 2: names that are none or stand twice; the second one is told.
func TestCheckNames(t *testing.T) {
	for i := range line().Nodes {
		for _, s := range names() {
			mustBe(t, s, set(line(), i, func(n *api.Node) { n.Name = s }))
		}
		for _, s := range noNames() {
			mustNotBe(t, s, set(line(), i, func(n *api.Node) { n.Name = s }), i)
		}
	}
	p := all()
	for i := range p.Nodes {
		for k := range i {
			mustNotBe(t, fmt.Sprintf("%d named as %d", i, k), set(p, i, func(n *api.Node) { n.Name = p.Nodes[k].Name }), i)
		}
	}
	mustBe(t, "named as the process", set(line(), 1, func(n *api.Node) { n.Name = "p" }))
	mustBe(t, "named as its type", set(line(), 1, func(n *api.Node) { n.Name = n.Type }))
}

// P11.2, place 2: parents that aren't the place of an NSub ahead.
func TestCheckParents(t *testing.T) {
	p := all()
	for i := range p.Nodes {
		for parent := -3; parent < len(p.Nodes)+3; parent++ {
			if parent == -1 || parent < i && parent >= 0 && p.Nodes[parent].Kind == api.NSub {
				continue // other faults may be told
			}
			mustNotBe(t, fmt.Sprintf("%d in %d", i, parent), set(p, i, func(n *api.Node) { n.Parent = parent }), i)
		}
		for _, parent := range []int{math.MinInt, math.MaxInt, 1<<32 + 5, -1 << 32} {
			mustNotBe(t, fmt.Sprintf("%d in %d", i, parent), set(p, i, func(n *api.Node) { n.Parent = parent }), i)
		}
	}
	behind := process([]api.Node{node(api.NStart, "s"), in(2, node(api.NStart, "us")), node(api.NSub, "u"), in(2, node(api.NEnd, "ue")), node(api.NEnd, "e")},
		flow(0, 2), flow(2, 4), flow(1, 3))
	mustNotBe(t, "an NSub behind", behind, 1)
	own := set(through(api.NSub), 1, func(n *api.Node) { n.Parent = 1 })
	mustNotBe(t, "an NSub in itself", own, 1)
}

// P11.2, place 2: a host of nodes that sit at none.
func TestCheckHostsOfOthers(t *testing.T) {
	p := all()
	for i, x := range p.Nodes {
		if x.Kind == api.NOnMsg || x.Kind == api.NOnTime {
			continue
		}
		for _, host := range []int{-2, 0, 2, 5, i, 1 << 32, math.MaxInt, math.MinInt} {
			mustNotBe(t, fmt.Sprintf("%d of kind %d at %d", i, x.Kind, host), set(p, i, func(n *api.Node) { n.Host = host }), i)
		}
	}
}

// P11.2, place 2: hosts of each kind, within the scope and out of it, ahead and
// behind.
func TestCheckHosts(t *testing.T) {
	p := all()
	for _, i := range []int{14, 15, 16, 17} {
		for host := -3; host < len(p.Nodes)+3; host++ {
			ok := false
			if host >= 0 && host < len(p.Nodes) {
				waits := slices.Contains([]int{api.NTask, api.NCatch, api.NTimer, api.NSub}, p.Nodes[host].Kind)
				ok = waits && p.Nodes[host].Parent == p.Nodes[i].Parent
			}
			mustBeOr(t, fmt.Sprintf("%d at %d", i, host), set(p, i, func(n *api.Node) { n.Host = host }), ok, i)
		}
		for _, host := range []int{math.MinInt, math.MaxInt, 1<<32 + 2} {
			mustNotBe(t, fmt.Sprintf("%d at %d", i, host), set(p, i, func(n *api.Node) { n.Host = host }), i)
		}
	}
	for _, kind := range []int{api.NOnMsg, api.NOnTime} {
		behind := process([]api.Node{node(api.NStart, "s"), at(2, node(kind, "b")), node(api.NTask, "t"), node(api.NEnd, "e")}, flow(0, 2), flow(2, 3), flow(1, 3))
		mustBe(t, "a host behind", behind)
		mustNotBe(t, "at itself", set(behind, 1, func(n *api.Node) { n.Host = 1 }), 1)
	}
	within := through(api.NSub)
	within.Nodes = append(within.Nodes, in(1, at(1, node(api.NOnTime, "b"))))
	within.Flows = append(within.Flows, flow(5, 4))
	mustNotBe(t, "within its host", within, 5)
}

// eachKind calls for every kind with a process that may be and the place of a node
// of that kind.
func eachKind(yield func(kind int, p api.Process, i int)) {
	p := all()
	for kind := api.NStart; kind <= api.NOnTime; kind++ {
		yield(kind, p, slices.IndexFunc(p.Nodes, func(n api.Node) bool { return n.Kind == kind }))
	}
}

// P11.2, place 2: types of each kind.
func TestCheckTypes(t *testing.T) {
	eachKind(func(kind int, p api.Process, i int) {
		needs := slices.Contains([]int{api.NTask, api.NCatch, api.NOnMsg}, kind)
		try := func(s string, ok bool) {
			mustBeOr(t, fmt.Sprintf("kind %d of type %q", kind, s), set(p, i, func(n *api.Node) { n.Type = s }), ok, i)
		}
		for _, s := range names() {
			try(s, needs)
		}
		for _, s := range noNames() {
			try(s, s == "" && !needs)
		}
	})
}

// P11.2, place 2: keys of each kind.
func TestCheckKeys(t *testing.T) {
	eachKind(func(kind int, p api.Process, i int) {
		needs := kind == api.NCatch || kind == api.NOnMsg
		try := func(s string, ok bool) {
			mustBeOr(t, fmt.Sprintf("kind %d of key %q", kind, s), set(p, i, func(n *api.Node) { n.Key = s }), ok, i)
		}
		for _, s := range exprs() {
			try(s, needs)
		}
		for _, s := range noExprs() {
			try(s, false)
		}
		try("", !needs)
	})
}

// P11.2, place 2: N of each kind, at its bounds and far beyond.
func TestCheckNumbers(t *testing.T) {
	eachKind(func(kind int, p api.Process, i int) {
		least, most := int64(0), int64(0)
		switch kind {
		case api.NTask:
			least, most = 1, 9
		case api.NTimer, api.NOnTime:
			least, most = 1, 1<<20
		}
		for _, n := range []int64{math.MinInt64, -1 << 32, -1<<32 + 1, -10, -1, 0, 1, 2, 8, 9, 10, 1<<20 - 1, 1 << 20, 1<<20 + 1, 1 << 32, 1<<32 + 1, math.MaxInt64} {
			ok := n >= least && n <= most
			mustBeOr(t, fmt.Sprintf("kind %d of N %d", kind, n), set(p, i, func(x *api.Node) { x.N = n }), ok, i)
		}
	})
}

// P11.2, place 3: scopes without a start and with two.
func TestCheckScopes(t *testing.T) {
	end := func(n *api.Node) { n.Kind = api.NXor }
	p := all()
	mustNotBe(t, "the whole without a start", set(p, 0, end), -1)
	mustNotBe(t, "the NSub without a start", set(p, 6, end), 5)
	mustNotBe(t, "the NSub within without a start", set(p, 9, end), 8)
	mustNotBe(t, "the two NSubs without", set(set(p, 9, end), 6, end), 5)
	mustNotBe(t, "none with a start", set(set(set(p, 9, end), 6, end), 0, end), -1)
	more := func(parents ...int) api.Process {
		q := copied(p)
		for _, parent := range parents {
			name := fmt.Sprintf("more%d", len(q.Nodes))
			q.Nodes = append(q.Nodes, in(parent, node(api.NStart, name)))
		}
		return q
	}
	mustNotBe(t, "two starts of the whole", more(-1), -1)
	mustNotBe(t, "two starts of the NSub", more(5), 5)
	mustNotBe(t, "two starts of the NSub within", more(8), 8)
	mustNotBe(t, "three starts of the NSub within", more(8, 8), 8)
	mustNotBe(t, "two starts of both NSubs", more(8, 5), 5)
	mustNotBe(t, "two starts of all", more(8, 5, -1), -1)
	empty := line()
	empty.Nodes[1] = node(api.NSub, "u")
	mustNotBe(t, "an NSub with nothing in it", empty, 1)
	mustNotBe(t, "one node, no start", process([]api.Node{node(api.NEnd, "e")}), -1)
	mustNotBe(t, "a start in an NSub only", process([]api.Node{node(api.NSub, "u"), in(0, node(api.NStart, "s"))}), -1)
}

// P11.2, place 4: flows from and to no node.
func TestCheckFlowsToNowhere(t *testing.T) {
	for _, i := range []int{-1, -2, 3, 4, 40, 1000, 1 << 32, 1<<32 + 1, math.MaxInt, math.MinInt} {
		for j := range 2 {
			from, to := line(), line()
			from.Flows[j].From, to.Flows[j].To = i, i
			mustNotBe(t, fmt.Sprintf("flow %d from %d", j, i), from, 1000+j)
			mustNotBe(t, fmt.Sprintf("flow %d to %d", j, i), to, 1000+j)
			both := line()
			both.Flows[j] = flow(i, i)
			mustNotBe(t, fmt.Sprintf("flow %d from and to %d", j, i), both, 1000+j)
		}
	}
}

// P11.2, place 4: flows that may not go from this node to that one; of all that
// may, none is told as a flow.
func TestCheckEnds(t *testing.T) {
	p := all()
	last := len(p.Flows)
	for from, a := range p.Nodes {
		for to, b := range p.Nodes {
			q := copied(p)
			cond := ""
			if a.Kind == api.NXor {
				cond = "a"
			}
			q.Flows = append(q.Flows, when(from, to, cond))
			may := a.Parent == b.Parent && a.Kind != api.NEnd && b.Kind != api.NStart && b.Kind != api.NOnMsg && b.Kind != api.NOnTime
			err, at := model.Check(q)
			if told := err == api.ErrModel && at == 1000+last; told == may {
				t.Errorf("a flow from %d to %d: %d at %d", from, to, err, at)
			}
		}
	}
}

// P11.2, place 4: conditions of flows out of each kind of node.
func TestCheckConds(t *testing.T) {
	eachKind(func(kind int, p api.Process, i int) {
		j := slices.IndexFunc(p.Flows, func(f api.Flow) bool { return f.From == i })
		if j < 0 {
			return // an end
		}
		try := func(s string, ok bool) {
			q := copied(p)
			q.Flows[j].Cond = s
			mustBeOr(t, fmt.Sprintf("kind %d with the condition %q", kind, s), q, ok, 1000+j)
		}
		for _, s := range exprs() {
			try(s, kind == api.NXor)
		}
		for _, s := range noExprs() {
			try(s, false)
		}
		if kind != api.NXor {
			try("", true)
		}
	})
}

// P11.2, place 4: one flow without a condition may go out of an NXor, not two,
// wherever they stand; the second one is told.
func TestCheckEmptyConds(t *testing.T) {
	nodes := []api.Node{node(api.NStart, "s"), node(api.NXor, "x"), node(api.NXor, "y"), node(api.NEnd, "e")}
	of := func(conds ...string) api.Process {
		p := process(nodes, flow(0, 1), flow(2, 3))
		for _, c := range conds {
			p.Flows = append(p.Flows, when(1, 2, c))
		}
		return p
	}
	mustBe(t, "one empty one", of(""))
	mustBe(t, "none empty", of("a"))
	mustBe(t, "the same twice", of("a", "a"))
	mustBe(t, "an empty one first", of("", "a", "b"))
	mustBe(t, "an empty one between", of("a", "", "b"))
	mustBe(t, "an empty one last", of("a", "b", ""))
	mustNotBe(t, "two empty ones", of("", ""), 1003)
	mustNotBe(t, "two empty ones, one between", of("", "a", ""), 1004)
	mustNotBe(t, "three empty ones", of("a", "", "b", "", ""), 1005)
	mustNotBe(t, "an empty one, one that is none, an empty one", of("", "1 +", ""), 1003)
	mustNotBe(t, "two empty ones, one that is none", of("", "", "1 +"), 1003)
}

// P11.2, place 5: how many flows go out of each kind of node.
func TestCheckOuts(t *testing.T) {
	eachKind(func(kind int, p api.Process, i int) {
		outs := model.Outs(p, i)
		none := copied(p)
		none.Flows = slices.DeleteFunc(none.Flows, func(f api.Flow) bool { return f.From == i })
		none = led(none)
		mustBeOr(t, fmt.Sprintf("kind %d with no flow out", kind), none, kind == api.NEnd, i)
		if kind == api.NEnd {
			return
		}
		two := copied(p)
		two.Flows = append(two.Flows, when(i, p.Flows[outs[0]].To, p.Flows[outs[0]].Cond))
		mustBeOr(t, fmt.Sprintf("kind %d with one more flow out", kind), two, kind == api.NXor || kind == api.NAnd, i)
	})
	for _, kind := range []int{api.NXor, api.NAnd} {
		mustBe(t, fmt.Sprintf("kind %d with just one", kind), through(kind))
	}
}

// led is p with a flow into each node that must have one and has none, from a new
// node that leads to itself, too: no node's flows in are a fault of it.
func led(p api.Process) api.Process {
	for i, n := range p.Nodes {
		if len(model.Ins(p, i)) > 0 || slices.Contains([]int{api.NStart, api.NOnMsg, api.NOnTime}, n.Kind) {
			continue
		}
		and := len(p.Nodes)
		p.Nodes = append(p.Nodes, in(n.Parent, node(api.NAnd, fmt.Sprintf("led%d", i))))
		p.Flows = append(p.Flows, flow(and, i), flow(and, and))
	}
	return p
}

// P11.2, place 5: nodes that no flow goes into.
func TestCheckIns(t *testing.T) {
	for kind := api.NStart; kind <= api.NOnTime; kind++ {
		p := line()
		if kind == api.NStart {
			continue // has none, as in all processes
		}
		n := node(kind, "b")
		if kind == api.NOnMsg || kind == api.NOnTime {
			n.Host = 1
		}
		p.Nodes = append(p.Nodes, n)
		if kind != api.NEnd {
			p.Flows = append(p.Flows, flow(3, 2))
		}
		if kind == api.NSub {
			p.Nodes = append(p.Nodes, in(3, node(api.NStart, "is")), in(3, node(api.NEnd, "ie")))
			p.Flows = append(p.Flows, flow(4, 5))
		}
		mustBeOr(t, fmt.Sprintf("kind %d with no flow in", kind), p, kind == api.NOnMsg || kind == api.NOnTime, 3)
	}
}

// P11.2: of several faults the first one is told: by the places 1 to 5, then
// rising.
func TestCheckOrder(t *testing.T) {
	faults := []struct {
		at   int
		make func(p *api.Process)
	}{
		{-1, func(p *api.Process) { p.Id = "" }},
		{0, func(p *api.Process) { p.Nodes[0].N = 1 }},
		{3, func(p *api.Process) { p.Nodes[3].Key = "(" }},
		{14, func(p *api.Process) { p.Nodes[14].Host = 0 }},
		{17, func(p *api.Process) { p.Nodes[17].Name = "m" }},
		{-1, func(p *api.Process) { p.Nodes = append(p.Nodes, node(api.NStart, fmt.Sprintf("n%d", len(p.Nodes)))) }},
		{5, func(p *api.Process) {
			p.Nodes = append(p.Nodes, in(5, node(api.NStart, fmt.Sprintf("n%d", len(p.Nodes)))))
		}},
		{8, func(p *api.Process) {
			p.Nodes = append(p.Nodes, in(8, node(api.NStart, fmt.Sprintf("n%d", len(p.Nodes)))))
		}},
		{1001, func(p *api.Process) { p.Flows[1].Cond = "1 +" }},
		{1009, func(p *api.Process) { p.Flows[9].To = 6 }},
		{1017, func(p *api.Process) { p.Flows[17].From = -1 }},
		{2, func(p *api.Process) { p.Flows = append(p.Flows, flow(2, 5)) }},
		{11, func(p *api.Process) { p.Flows = append(p.Flows, flow(16, 12)); p.Flows[12].From = 7 }},
		{16, func(p *api.Process) { p.Flows = append(p.Flows, flow(16, 12)) }},
	}
	for i := range faults {
		for mask := range 1 << (len(faults) - i - 1) {
			if i < 6 && mask%37 != 0 {
				continue // some of so many are enough
			}
			p := all()
			for k := len(faults) - 1; k > i; k-- {
				if mask>>(k-i-1)&1 == 1 {
					faults[k].make(&p)
				}
			}
			faults[i].make(&p)
			mustNotBe(t, fmt.Sprintf("fault %d and those of %b behind", i, mask), p, faults[i].at)
		}
	}
}

// P11.2, place 5: a fault of flows out and one of flows in, of different nodes: the
// lesser place is told, whichever it is.
func TestCheckWaysRise(t *testing.T) {
	p := process([]api.Node{node(api.NStart, "s"), node(api.NTask, "t"), node(api.NXor, "x"), node(api.NEnd, "e")}, flow(0, 3), flow(1, 3))
	mustNotBe(t, "1 has no flow in, 2 no flow out", p, 1)
	p.Nodes[1], p.Nodes[2] = node(api.NXor, "x"), node(api.NTask, "t")
	p.Flows[1] = flow(2, 3)
	mustNotBe(t, "1 has no flow out, 2 no flow in", p, 1)
	p.Flows = append(p.Flows, flow(1, 1))
	mustNotBe(t, "2 has no flow in", p, 2)
	p.Flows[2].To = 2
	mustNotBe(t, "1 has no flow in", p, 1)
	p.Flows = append(p.Flows, when(1, 1, "a"))
	mustBe(t, "both have all", p)
}
