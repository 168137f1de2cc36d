package expr

import (
	"wherry/api"
)

// tightest is the level of what is an operand as it stands.
const tightest = 6

// sign is how an operator is written, and how tightly it binds.
type sign struct {
	text  string
	level int
}

var signs = [...]sign{
	api.XValue: {"", tightest},
	api.XVar:   {"", tightest},
	api.XNeg:   {"-", tightest},
	api.XNot:   {"not", tightest},
	api.XLen:   {"len", tightest},
	api.XMul:   {"*", 5},
	api.XDiv:   {"/", 5},
	api.XMod:   {"%", 5},
	api.XAdd:   {"+", 4},
	api.XSub:   {"-", 4},
	api.XEq:    {"==", 3},
	api.XNe:    {"!=", 3},
	api.XLt:    {"<", 3},
	api.XLe:    {"<=", 3},
	api.XGt:    {">", 3},
	api.XGe:    {">=", 3},
	api.XAnd:   {"and", 2},
	api.XOr:    {"or", 1},
}

// twoHanded is the operator between two operands that is written so; 0: none is.
func twoHanded(text string) int {
	for op := api.XMul; op <= api.XOr; op++ {
		if signs[op].text == text {
			return op
		}
	}
	return 0
}

// handsOf is how many parts an operator is of; -1: there is no such operator.
func handsOf(op int) int {
	switch {
	case op < api.XValue || op > api.XOr:
		return -1
	case op <= api.XVar:
		return 0
	case op <= api.XLen:
		return 1
	}
	return 2
}
