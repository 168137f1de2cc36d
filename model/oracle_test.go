package model_test

import (
	"regexp"

	"wherry/api"
	"wherry/expr"
)

var nameForm = regexp.MustCompile(`^[a-z][a-z0-9_]{0,31}$`)

func isName(s string) bool {
	switch s {
	case "and", "or", "not", "true", "false", "len":
		return false
	}
	return nameForm.MatchString(s)
}

func isExpr(s string) bool {
	_, err, _ := expr.Parse(s)
	return err == api.OK
}

// faultsOf are the places of all faults, in the order of the promise: the first one
// is what Check is to tell.
func faultsOf(p api.Process) []int {
	var l []int
	if !isName(p.Id) || len(p.Nodes) < 1 || len(p.Nodes) > 40 || len(p.Flows) > 80 {
		l = append(l, -1)
	}
	for i, n := range p.Nodes {
		if !nodeIsRight(p, i, n) {
			l = append(l, i)
		}
	}
	for scope := -1; scope < len(p.Nodes); scope++ {
		starts := 0
		for _, n := range p.Nodes {
			if n.Kind == 1 && n.Parent == scope {
				starts++
			}
		}
		if starts != 1 && (scope == -1 || p.Nodes[scope].Kind == 8) {
			l = append(l, scope)
		}
	}
	for j, f := range p.Flows {
		if !flowIsRight(p, j, f) {
			l = append(l, 1000+j)
		}
	}
	for i, n := range p.Nodes {
		if !waysAreRight(p, i, n) {
			l = append(l, i)
		}
	}
	return l
}

func nodeIsRight(p api.Process, i int, n api.Node) bool {
	for k := range i {
		if p.Nodes[k].Name == n.Name {
			return false
		}
	}
	if !isName(n.Name) || n.Parent != -1 && (n.Parent < 0 || n.Parent >= i || p.Nodes[n.Parent].Kind != 8) {
		return false
	}
	alone := n.Host == -1
	sits := false
	if n.Host >= 0 && n.Host < len(p.Nodes) {
		host := p.Nodes[n.Host]
		sits = host.Parent == n.Parent && (host.Kind == 3 || host.Kind == 6 || host.Kind == 7 || host.Kind == 8)
	}
	noType, noKey := n.Type == "", n.Key == ""
	switch n.Kind {
	case 1, 2, 4, 5, 8:
		return alone && noType && noKey && n.N == 0
	case 3:
		return alone && isName(n.Type) && noKey && n.N >= 1 && n.N <= 9
	case 6:
		return alone && isName(n.Type) && isExpr(n.Key) && n.N == 0
	case 7:
		return alone && noType && noKey && n.N >= 1 && n.N <= 1048576
	case 9:
		return sits && isName(n.Type) && isExpr(n.Key) && n.N == 0
	case 10:
		return sits && noType && noKey && n.N >= 1 && n.N <= 1048576
	}
	return false
}

func flowIsRight(p api.Process, j int, f api.Flow) bool {
	if f.From < 0 || f.To < 0 || f.From >= len(p.Nodes) || f.To >= len(p.Nodes) {
		return false
	}
	from, to := p.Nodes[f.From], p.Nodes[f.To]
	if from.Parent != to.Parent || from.Kind == 2 || to.Kind == 1 || to.Kind == 9 || to.Kind == 10 {
		return false
	}
	if from.Kind != 4 {
		return f.Cond == ""
	}
	if f.Cond != "" {
		return isExpr(f.Cond)
	}
	for k := range j {
		if p.Flows[k].From == f.From && p.Flows[k].Cond == "" {
			return false
		}
	}
	return true
}

func waysAreRight(p api.Process, i int, n api.Node) bool {
	outs, ins := 0, 0
	for _, f := range p.Flows {
		if f.From == i {
			outs++
		}
		if f.To == i {
			ins++
		}
	}
	switch n.Kind {
	case 1, 9, 10:
		return outs == 1 && ins == 0
	case 2:
		return outs == 0 && ins > 0
	case 4, 5:
		return outs > 0 && ins > 0
	}
	return outs == 1 && ins > 0
}

// goesRound: the ways between nodes that don't wait, made longer till they are all
// told: does one lead back? (Of a process that may be.)
func goesRound(p api.Process) bool {
	var way [40][40]bool
	for _, f := range p.Flows {
		free := true
		for _, i := range []int{f.From, f.To} {
			switch p.Nodes[i].Kind {
			case 3, 6, 7, 8:
				free = false
			}
		}
		way[f.From][f.To] = way[f.From][f.To] || free
	}
	for over := range 40 {
		for from := range 40 {
			for to := range 40 {
				way[from][to] = way[from][to] || way[from][over] && way[over][to]
			}
		}
	}
	for i := range 40 {
		if way[i][i] {
			return true
		}
	}
	return false
}
