package expr

import (
	"wherry/api"
	"wherry/value"
)

// shaped: do the parts stand one behind the other as those of a text do, however
// much it nests?
func shaped(x api.Expr) bool {
	if len(x) > api.MaxParts {
		return false
	}
	var free []int // the places of the parts that none is of yet
	for i, p := range x {
		hands := handsOf(p.Op)
		if hands < 0 || hands > len(free) || !holds(p) {
			return false
		}
		rest, of := free[:len(free)-hands], free[len(free)-hands:]
		if !isOf(p, of) {
			return false
		}
		free = append(rest, i)
	}
	return len(free) == 1
}

// isOf: are these, all of them and no others, what a part is of?
func isOf(p api.Part, places []int) bool {
	a, b := -1, -1
	if len(places) > 0 {
		a = places[0]
	}
	if len(places) > 1 {
		b = places[1]
	}
	return p.A == a && p.B == b
}

// holds: is a part's value one that its operator has in a text?
func holds(p api.Part) bool {
	switch p.Op {
	case api.XValue:
		// No number of a text is below 0: its sign is a part of its own.
		return value.May(p.V) && p.V.N >= 0
	case api.XVar:
		return value.Named(p.V.S) && p.V == text(p.V.S)
	}
	return p.V == api.Value{}
}

// nested is how many operands are within one another in a part's text, by how
// many there are in those of its own parts.
func nested(x api.Expr, i, a, b int) int {
	switch handsOf(x[i].Op) {
	case 0:
		return 1
	case 1:
		if x[i].Op != api.XLen && leftBrackets(x, i) {
			a++
		}
		return a + 1
	}
	if leftBrackets(x, i) {
		a++
	}
	if rightBrackets(x, i) {
		b++
	}
	return max(a, b)
}

// written is a part's text, by those of its own parts.
func written(x api.Expr, i int, a, b string) string {
	p := x[i]
	switch {
	case p.Op == api.XValue:
		return value.Show(p.V)
	case p.Op == api.XVar:
		return p.V.S
	case p.Op == api.XLen || leftBrackets(x, i):
		a = "( " + a + " )"
	}
	sign := signs[p.Op].text
	if p.B < 0 {
		return sign + " " + a
	}
	if rightBrackets(x, i) {
		b = "( " + b + " )"
	}
	return a + " " + sign + " " + b
}

// leftBrackets: must a part's A (its only one, or the left one) be bracketed?
func leftBrackets(x api.Expr, i int) bool {
	return signs[x[x[i].A].Op].level < signs[x[i].Op].level
}

// rightBrackets: must a part's B be bracketed?
func rightBrackets(x api.Expr, i int) bool {
	return signs[x[x[i].B].Op].level <= signs[x[i].Op].level
}
