package model

import (
	"slices"

	"wherry/api"
	"wherry/expr"
	"wherry/value"
)

// rule is what an element must meet, by its place. A rule may lean on those
// ahead of it, and on what is checked ahead of all of them.
type rule[T any] func(i int, x T) bool

// firstWrong is the place of the first element that doesn't meet all rules.
func firstWrong[T any](l []T, rules []rule[T]) (int, bool) {
	for i, x := range l {
		for _, meets := range rules {
			if !meets(i, x) {
				return i, true
			}
		}
	}
	return 0, false
}

func wrongWhole(p api.Process) (int, bool) {
	nodes, flows := len(p.Nodes), len(p.Flows)
	return none, !value.Named(p.Id) || nodes == 0 || nodes > api.MaxNodes || flows > api.MaxFlows
}

func wrongNode(p api.Process) (int, bool) { return firstWrong(p.Nodes, nodeRules(p)) }

func wrongScope(p api.Process) (int, bool) {
	scopes := []int{none}
	scopes = append(scopes, places(p.Nodes, func(n api.Node) bool { return isOf(n, api.NSub) })...)
	for _, scope := range scopes {
		if starts := places(p.Nodes, func(n api.Node) bool { return begins(n, scope) }); len(starts) != 1 {
			return scope, true
		}
	}
	return 0, false
}

func wrongFlow(p api.Process) (int, bool) {
	j, found := firstWrong(p.Flows, flowRules(p))
	return api.FlowPlace + j, found
}

func wrongWay(p api.Process) (int, bool) { return firstWrong(p.Nodes, wayRules(p)) }

// bounds are the least and the greatest N of the kinds that have one; those of
// all others, which the map doesn't have, are 0 and 0.
func bounds() map[int][2]int64 {
	return map[int][2]int64{
		api.NTask:   {1, api.MaxRetries},
		api.NTimer:  {1, api.MaxWait},
		api.NOnTime: {1, api.MaxWait},
	}
}

func nodeRules(p api.Process) []rule[api.Node] {
	ends := bounds()
	return []rule[api.Node]{
		func(_ int, n api.Node) bool { return n.Kind >= api.NStart && n.Kind <= api.NOnTime },
		func(i int, n api.Node) bool { return value.Named(n.Name) && !isNamed(p.Nodes[:i], n.Name) },
		func(i int, n api.Node) bool {
			return n.Parent == none || isPlace(p.Nodes[:i], n.Parent) && isOf(p.Nodes[n.Parent], api.NSub)
		},
		func(_ int, n api.Node) bool {
			if !sits(n) {
				return n.Host == none
			}
			return isPlace(p.Nodes, n.Host) && waits(p.Nodes[n.Host]) && p.Nodes[n.Host].Parent == n.Parent
		},
		func(_ int, n api.Node) bool {
			if isOf(n, api.NTask, api.NCatch, api.NOnMsg) {
				return value.Named(n.Type)
			}
			return n.Type == ""
		},
		func(_ int, n api.Node) bool {
			if isOf(n, api.NCatch, api.NOnMsg) {
				return parses(n.Key)
			}
			return n.Key == ""
		},
		func(_ int, n api.Node) bool { return n.N >= ends[n.Kind][0] && n.N <= ends[n.Kind][1] },
	}
}

func flowRules(p api.Process) []rule[api.Flow] {
	return []rule[api.Flow]{
		func(_ int, f api.Flow) bool { return isPlace(p.Nodes, f.From) && isPlace(p.Nodes, f.To) },
		func(_ int, f api.Flow) bool { return p.Nodes[f.From].Parent == p.Nodes[f.To].Parent },
		func(_ int, f api.Flow) bool { return !isOf(p.Nodes[f.From], api.NEnd) },
		func(_ int, f api.Flow) bool { return !noWayIn(p.Nodes[f.To]) },
		func(j int, f api.Flow) bool {
			switch {
			case !isOf(p.Nodes[f.From], api.NXor):
				return f.Cond == ""
			case f.Cond == "":
				return !slices.ContainsFunc(p.Flows[:j], func(g api.Flow) bool { return g.From == f.From && g.Cond == "" })
			}
			return parses(f.Cond)
		},
	}
}

// wayRules are what nodes must meet once all flows are right.
func wayRules(p api.Process) []rule[api.Node] {
	return []rule[api.Node]{
		func(i int, n api.Node) bool {
			outs := len(Outs(p, i))
			switch {
			case isOf(n, api.NEnd):
				return outs == 0
			case isOf(n, api.NXor, api.NAnd):
				return outs > 0
			}
			return outs == 1
		},
		func(i int, n api.Node) bool { return noWayIn(n) == (len(Ins(p, i)) == 0) },
	}
}

func isPlace(nodes []api.Node, i int) bool { return i >= 0 && i < len(nodes) }

func isNamed(nodes []api.Node, name string) bool {
	return slices.ContainsFunc(nodes, func(n api.Node) bool { return n.Name == name })
}

func parses(s string) bool {
	_, err, _ := expr.Parse(s)
	return err == api.OK
}

func sits(n api.Node) bool { return isOf(n, api.NOnMsg, api.NOnTime) }

func noWayIn(n api.Node) bool { return sits(n) || isOf(n, api.NStart) }
