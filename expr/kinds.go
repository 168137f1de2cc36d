package expr

import (
	"wherry/api"
	"wherry/value"
)

// declared are the kinds of variables by their names; false, if they may not be.
func declared(vars []api.Decl) (map[string]int, bool) {
	kinds := map[string]int{}
	for _, d := range vars {
		_, twice := kinds[d.Name]
		if !value.Named(d.Name) || twice || d.Kind < api.Int || d.Kind > api.Text {
			return nil, false
		}
		kinds[d.Name] = d.Kind
	}
	return kinds, true
}

// checked is the kind of the whole.
func checked(x api.Expr, kinds map[string]int) int {
	return along(x, func(i, a, b int) int {
		switch p := x[i]; p.Op {
		case api.XValue:
			return p.V.Kind
		case api.XVar:
			kind, has := kinds[p.V.S]
			if !has {
				giveUp(api.ErrVar, i)
			}
			return kind
		}
		kind := kindOf(x[i].Op, a, b)
		if kind == 0 {
			giveUp(api.ErrType, i)
		}
		return kind
	})
}

// kindOf is the kind of what an operator makes of such kinds; 0: it can't be of
// them.
func kindOf(op, a, b int) int {
	kind, fits := api.Bool, false
	switch op {
	case api.XNeg:
		kind, fits = api.Int, a == api.Int
	case api.XNot:
		fits = a == api.Bool
	case api.XLen:
		kind, fits = api.Int, a == api.Text
	case api.XMul, api.XDiv, api.XMod, api.XSub:
		kind, fits = api.Int, a == api.Int && b == api.Int
	case api.XAdd:
		kind, fits = a, a == b && a != api.Bool
	case api.XEq, api.XNe:
		fits = a == b
	case api.XLt, api.XLe, api.XGt, api.XGe:
		fits = a == b && a != api.Bool
	case api.XAnd, api.XOr:
		fits = a == api.Bool && b == api.Bool
	}
	if !fits {
		return 0
	}
	return kind
}
