package flow

import (
	"slices"

	"wherry/api"
	"wherry/model"
	"wherry/value"
)

// visit is a node that is entered, by a flow, in a scope.
type visit struct {
	node, by int
	scope    uint64
}

// kinds are what the kinds of nodes do when they are entered. What sits at others
// (NOnMsg, NOnTime) does nothing.
func kinds() map[int]func(*walk, visit) {
	return map[int]func(*walk, visit){
		api.NStart: (*walk).pass,
		api.NEnd:   (*walk).end,
		api.NTask:  (*walk).task,
		api.NXor:   (*walk).xor,
		api.NAnd:   (*walk).and,
		api.NCatch: (*walk).catch,
		api.NTimer: (*walk).timer,
		api.NSub:   (*walk).sub,
	}
}

func (k *walk) enter(v visit) {
	if k.steps == api.MaxSteps {
		k.stuckAt(v, api.StuckLoop)
		return
	}
	k.steps++
	if do, has := kinds()[k.p.Nodes[v.node].Kind]; has {
		do(k, v)
	}
}

// entered is the key of a new token.
func (k *walk) entered(v visit) uint64 {
	key := k.w.Key()
	k.w.tell(api.Record{Kind: api.EEntered, Key: key, Key2: k.inst, Key3: v.scope, N: int64(v.node), M: int64(v.by)})
	return key
}

func (k *walk) stuckAt(v visit, why string) {
	k.stuck(k.entered(v), why)
}

func (k *walk) pass(v visit) {
	k.passed(v.node, v.scope)
	k.follow(v.node, v.scope)
}

func (k *walk) end(v visit) {
	k.passed(v.node, v.scope)
	k.lookAt(v.scope)
}

func (k *walk) xor(v visit) {
	f, why := k.way(v.node)
	if why != "" {
		k.stuckAt(v, why)
		return
	}
	k.passed(v.node, v.scope)
	k.enter(visit{node: k.p.Flows[f].To, by: f, scope: v.scope})
}

// way is the one flow by which one goes on, or why there is none.
func (k *walk) way(node int) (flow int, why string) {
	bare := func(f int) bool { return k.p.Flows[f].Cond == "" }
	open := func(f int) bool {
		if bare(f) {
			return false
		}
		v, err := k.reckon(k.p.Flows[f].Cond)
		if err != api.OK || v.Kind != api.Bool {
			why = api.StuckCond
			return true // Nobody asks for the flows behind this one.
		}
		return v.N == 1
	}
	outs := model.Outs(k.p, node)
	i := slices.IndexFunc(outs, open)
	if i < 0 {
		i = slices.IndexFunc(outs, bare)
	}
	if i < 0 {
		return none, api.StuckWay
	}
	return outs[i], why
}

func (k *walk) and(v visit) {
	k.entered(v)
	var gone []uint64
	for _, f := range model.Ins(k.p, v.node) {
		key, has := k.least(visit{node: v.node, by: f, scope: v.scope})
		if !has {
			return
		}
		gone = append(gone, key)
	}
	for _, key := range gone {
		k.left(key)
	}
	k.pass(v)
}

// least is the least key of the tokens that entered so.
func (k *walk) least(v visit) (key uint64, has bool) {
	for _, t := range k.w.state.Tokens {
		so := t.Inst == k.inst && v == visit{node: t.Node, by: t.By, scope: t.Scope}
		if so && (!has || t.Key < key) {
			key, has = t.Key, true
		}
	}
	return key, has
}

// wait is a new token, with what sits at its node.
func (k *walk) wait(v visit) (uint64, api.Node) {
	token := k.entered(v)
	for _, on := range model.On(k.p, v.node) {
		if k.p.Nodes[on].Kind == api.NOnTime {
			k.setTimer(token, on)
		} else {
			k.setMessage(token, on)
		}
	}
	return token, k.p.Nodes[v.node]
}

func (k *walk) setTimer(token uint64, node int) {
	when := k.w.now + k.p.Nodes[node].N
	k.w.tell(api.Record{Kind: api.ETimer, Key: token, N: int64(node), M: when})
}

func (k *walk) setMessage(token uint64, node int) {
	n := k.p.Nodes[node]
	v, err := k.reckon(n.Key)
	key := v.S
	if v.Kind != api.Text {
		key = value.Show(v)
	}
	if err != api.OK || len(key) > api.MaxText {
		k.stuck(token, api.StuckKey)
		return
	}
	k.w.tell(api.Record{Kind: api.ESub, Key: token, Key2: k.inst, N: int64(node), A: n.Type, B: key})
}

func (k *walk) task(v visit) {
	token, n := k.wait(v)
	k.w.tell(api.Record{Kind: api.EJob, Key: k.w.Key(), Key2: token, A: n.Type, N: n.N})
}

func (k *walk) catch(v visit) {
	token, _ := k.wait(v)
	k.setMessage(token, v.node)
}

func (k *walk) timer(v visit) {
	token, _ := k.wait(v)
	k.setTimer(token, v.node)
}

func (k *walk) sub(v visit) {
	token, _ := k.wait(v)
	k.enter(visit{node: model.Start(k.p, v.node), by: none, scope: token})
}
