package expr

import (
	"wherry/api"
	"wherry/value"
)

// nowhere: what is reckoned tells no place of what is wrong.
const nowhere = 0

// reckoner finds what parts come to.
type reckoner struct {
	x    api.Expr
	vars []api.Var
	do   map[int]func(a, b api.Value) api.Value
}

// part is what a part comes to.
func (r *reckoner) part(i int) api.Value {
	p := r.x[i]
	switch p.Op {
	case api.XValue:
		return p.V
	case api.XVar:
		return r.variable(p.V.S)
	}
	a := r.part(p.A)
	if decides(p.Op, a) {
		return a
	}
	var b api.Value
	if p.B >= 0 {
		b = r.part(p.B)
	}
	if kindOf(p.Op, a.Kind, b.Kind) == 0 {
		giveUp(api.ErrType, nowhere)
	}
	return r.do[p.Op](a, b)
}

func (r *reckoner) variable(name string) api.Value {
	v, has := value.Get(r.vars, name)
	if !has {
		giveUp(api.ErrVar, nowhere)
	}
	return v
}

// decides: is a what the operator comes to, whatever stands to the right of it?
func decides(op int, a api.Value) bool {
	return op == api.XAnd && a == truth(false) || op == api.XOr && a == truth(true)
}

// operators are what is done with values whose kinds fit.
func operators() map[int]func(a, b api.Value) api.Value {
	right := func(_, b api.Value) api.Value { return b } // as a doesn't decide
	return map[int]func(a, b api.Value) api.Value{
		api.XNeg: func(a, _ api.Value) api.Value { return number(-a.N) },
		api.XNot: func(a, _ api.Value) api.Value { return truth(a.N == 0) },
		api.XLen: func(a, _ api.Value) api.Value { return number(int64(len(a.S))) },
		api.XMul: func(a, b api.Value) api.Value { return number(a.N * b.N) },
		api.XDiv: func(a, b api.Value) api.Value { return number(a.N / divisor(b)) },
		api.XMod: func(a, b api.Value) api.Value { return number(a.N % divisor(b)) },
		api.XAdd: sum,
		api.XSub: func(a, b api.Value) api.Value { return number(a.N - b.N) },
		api.XEq:  func(a, b api.Value) api.Value { return truth(a == b) },
		api.XNe:  func(a, b api.Value) api.Value { return truth(a != b) },
		api.XLt:  func(a, b api.Value) api.Value { return truth(value.Less(a, b)) },
		api.XLe:  func(a, b api.Value) api.Value { return truth(!value.Less(b, a)) },
		api.XGt:  func(a, b api.Value) api.Value { return truth(value.Less(b, a)) },
		api.XGe:  func(a, b api.Value) api.Value { return truth(!value.Less(a, b)) },
		api.XAnd: right,
		api.XOr:  right,
	}
}

func divisor(v api.Value) int64 {
	if v.N == 0 {
		giveUp(api.ErrDiv, nowhere)
	}
	return v.N
}

func sum(a, b api.Value) api.Value {
	if a.Kind == api.Int {
		return number(a.N + b.N)
	}
	if len(a.S)+len(b.S) > api.MaxText {
		giveUp(api.ErrLong, nowhere)
	}
	return text(a.S + b.S)
}

func number(n int64) api.Value { return api.Value{Kind: api.Int, N: n} }

func text(s string) api.Value { return api.Value{Kind: api.Text, S: s} }

func truth(is bool) api.Value {
	if is {
		return api.Value{Kind: api.Bool, N: 1}
	}
	return api.Value{Kind: api.Bool}
}
