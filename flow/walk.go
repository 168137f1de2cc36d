package flow

import (
	"cmp"
	"slices"

	"wherry/api"
	"wherry/expr"
	"wherry/fold"
	"wherry/model"
	"wherry/value"
)

// walk is how one command moves the tokens of an instance.
type walk struct {
	w     *Work
	inst  uint64
	p     api.Process
	steps int
}

// vars are those that the instance has by now: none, where it has ended.
func (k *walk) vars() []api.Var {
	inst, _ := k.w.instance(k.inst)
	return inst.Vars
}

// with is what the instance's variables become by these; nothing, if these are none.
func (k *walk) with(vars []api.Var) ([]api.Var, api.Errno) {
	if !value.Right(vars) {
		return nil, api.ErrArg
	}
	if len(vars) == 0 {
		return nil, api.OK
	}
	all := k.vars()
	for _, x := range vars {
		more, err := value.Put(all, x.Name, x.V)
		if err != api.OK {
			return nil, api.ErrFull
		}
		all = more
	}
	return all, api.OK
}

func (k *walk) setVars(all []api.Var) {
	if len(all) > 0 {
		k.w.tell(api.Record{Kind: api.EVars, Key: k.inst, Vars: all})
	}
}

// reckon is what an expression's text comes to.
func (k *walk) reckon(text string) (api.Value, api.Errno) {
	x, err, _ := expr.Parse(text)
	if err != api.OK {
		return api.Value{}, err
	}
	return expr.Eval(x, k.vars())
}

// follow goes on from a node by all its flows.
func (k *walk) follow(node int, scope uint64) {
	for _, f := range model.Outs(k.p, node) {
		k.enter(visit{node: k.p.Flows[f].To, by: f, scope: scope})
	}
}

func (k *walk) passed(node int, scope uint64) {
	k.w.tell(api.Record{Kind: api.EPassed, Key2: k.inst, Key3: scope, N: int64(node)})
}

func (k *walk) left(token uint64) {
	k.w.tell(api.Record{Kind: api.ELeft, Key: token})
}

func (k *walk) stuck(token uint64, why string) {
	k.w.tell(api.Record{Kind: api.EStuck, Key: token, A: why})
}

// lookAt ends a scope in which nobody is any more.
func (k *walk) lookAt(scope uint64) {
	within := func(t api.Token) bool { return t.Inst == k.inst && t.Scope == scope }
	if slices.ContainsFunc(k.w.state.Tokens, within) {
		return
	}
	if scope == 0 {
		k.w.tell(api.Record{Kind: api.EEnded, Key: k.inst})
		return
	}
	if t, has := fold.Token(k.w.state, scope); has {
		k.leave(t)
	}
}

// leave needs no node of the process: from any other number no flow goes out.
func (k *walk) leave(t api.Token) {
	k.left(t.Key)
	k.follow(t.Node, t.Scope)
}

func (k *walk) takeOff(t api.Token) {
	for _, key := range k.below(t.Key) {
		k.left(key)
	}
	k.left(t.Key)
}

// goOn: what a token waited for has come, at its own node or at one that breaks it
// off.
func (k *walk) goOn(t api.Token, node int) {
	if node == t.Node {
		k.leave(t)
		return
	}
	k.takeOff(t)
	k.passed(node, t.Scope)
	k.follow(node, t.Scope)
}

// below are the keys of the instance's tokens below one, falling: a key stands there
// once for each token that has it, as in states that no command made several may.
func (k *walk) below(token uint64) []uint64 {
	tokens := k.w.state.Tokens
	itself := slices.IndexFunc(tokens, func(t api.Token) bool { return t.Key == token })
	within := map[uint64][]uint64{}
	for i, t := range tokens {
		if t.Inst == k.inst && i != itself {
			within[t.Scope] = append(within[t.Scope], t.Key)
		}
	}
	keys := []uint64{token}
	for i := 0; i < len(keys); i++ {
		keys = append(keys, within[keys[i]]...)
		// No scope is gone into twice: in states that no command made they may go
		// round.
		delete(within, keys[i])
	}
	keys = keys[1:]
	slices.SortFunc(keys, func(a, b uint64) int { return cmp.Compare(b, a) })
	return keys
}
