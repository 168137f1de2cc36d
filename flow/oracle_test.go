package flow_test

import (
	"sort"

	"wherry/api"
	"wherry/expr"
	"wherry/fold"
	"wherry/model"
	"wherry/rec"
	"wherry/value"
)

// teller does a command by the chapter's words, one by one.
type teller struct {
	s      api.State
	events []api.Record
	part   int
	pos    uint64
	now    int64

	inst  uint64
	p     api.Process
	steps int
}

func (o *teller) emit(r api.Record) {
	r.Class, r.From, r.Time = api.Event, o.pos, o.now
	o.events = append(o.events, r)
	o.s = fold.Apply(o.s, o.s.Pos+1, r)
}

func (o *teller) key() uint64 { return uint64(o.part)*(1<<40) + o.s.Made + 1 }

func (o *teller) reckon(s string) (api.Value, bool) {
	var vars []api.Var
	for _, x := range o.s.Insts {
		if x.Key == o.inst {
			vars = x.Vars
			break
		}
	}
	x, err, _ := expr.Parse(s)
	if err != api.OK {
		return api.Value{}, false
	}
	v, err := expr.Eval(x, vars)
	return v, err == api.OK
}

func (o *teller) token(scope uint64, n, f int) uint64 {
	key := o.key()
	o.emit(entered(key, o.inst, scope, int64(n), int64(f)))
	return key
}

func (o *teller) follow(n int, scope uint64) {
	for i, f := range o.p.Flows {
		if f.From == n {
			o.enter(f.To, i, scope)
		}
	}
}

func (o *teller) message(token uint64, n int) {
	v, ok := o.reckon(o.p.Nodes[n].Key)
	switch {
	case !ok || v.Kind == api.Text && len(v.S) > 1024:
		o.emit(stuck(token, "key"))
	case v.Kind == api.Text:
		o.emit(sub(token, o.inst, int64(n), o.p.Nodes[n].Type, v.S))
	default:
		o.emit(sub(token, o.inst, int64(n), o.p.Nodes[n].Type, value.Show(v)))
	}
}

func (o *teller) enter(n, f int, scope uint64) {
	if o.steps >= 40 {
		o.emit(stuck(o.token(scope, n, f), "loop"))
		return
	}
	o.steps++
	x := o.p.Nodes[n]
	var token uint64
	switch x.Kind {
	case api.NTask, api.NCatch, api.NTimer, api.NSub:
		token = o.token(scope, n, f)
		for i, y := range o.p.Nodes {
			if y.Host == n && y.Kind == api.NOnTime {
				o.emit(timer(token, int64(i), o.now+y.N))
			} else if y.Host == n {
				o.message(token, i)
			}
		}
	}
	switch x.Kind {
	case api.NStart:
		o.emit(passed(o.inst, scope, int64(n)))
		o.follow(n, scope)
	case api.NEnd:
		o.emit(passed(o.inst, scope, int64(n)))
		o.look(scope)
	case api.NXor:
		o.xor(n, f, scope)
	case api.NAnd:
		o.and(n, f, scope)
	case api.NTask:
		o.emit(api.Record{Kind: api.EJob, Key: o.key(), Key2: token, A: x.Type, N: x.N})
	case api.NCatch:
		o.message(token, n)
	case api.NTimer:
		o.emit(timer(token, int64(n), o.now+x.N))
	case api.NSub:
		for i, y := range o.p.Nodes {
			if y.Kind == api.NStart && y.Parent == n {
				o.enter(i, -1, token)
			}
		}
	}
}

func (o *teller) xor(n, f int, scope uint64) {
	taken := -1
	for i, x := range o.p.Flows {
		if x.From != n || x.Cond == "" {
			continue
		}
		v, ok := o.reckon(x.Cond)
		if !ok || v.Kind != api.Bool {
			o.emit(stuck(o.token(scope, n, f), "cond"))
			return
		}
		if v.N == 1 {
			taken = i
			break
		}
	}
	for i, x := range o.p.Flows {
		if taken < 0 && x.From == n && x.Cond == "" {
			taken = i
		}
	}
	if taken < 0 {
		o.emit(stuck(o.token(scope, n, f), "way"))
		return
	}
	o.emit(passed(o.inst, scope, int64(n)))
	o.enter(o.p.Flows[taken].To, taken, scope)
}

func (o *teller) and(n, f int, scope uint64) {
	o.token(scope, n, f)
	var leave []uint64
	for i, x := range o.p.Flows {
		if x.To != n {
			continue
		}
		var keys []uint64
		for _, t := range o.s.Tokens {
			if t.Inst == o.inst && t.Scope == scope && t.Node == n && t.By == i {
				keys = append(keys, t.Key)
			}
		}
		if len(keys) == 0 {
			return
		}
		sort.Slice(keys, func(a, b int) bool { return keys[a] < keys[b] })
		leave = append(leave, keys[0])
	}
	for _, key := range leave {
		o.emit(left(key))
	}
	o.emit(passed(o.inst, scope, int64(n)))
	o.follow(n, scope)
}

func (o *teller) look(scope uint64) {
	for _, t := range o.s.Tokens {
		if t.Inst == o.inst && t.Scope == scope {
			return
		}
	}
	if scope == 0 {
		o.emit(ended(o.inst))
		return
	}
	if t, has := fold.Token(o.s, scope); has {
		o.emit(left(scope))
		o.follow(t.Node, t.Scope)
	}
}

func (o *teller) takeOff(t api.Token) {
	below := map[uint64]bool{t.Key: true}
	for range o.s.Tokens {
		for _, x := range o.s.Tokens {
			if x.Inst == o.inst && below[x.Scope] {
				below[x.Key] = true
			}
		}
	}
	var keys []uint64
	itself := true // the first one of its key
	for _, x := range o.s.Tokens {
		if x.Key == t.Key && itself {
			itself = false
		} else if x.Inst == o.inst && below[x.Scope] {
			keys = append(keys, x.Key)
		}
	}
	sort.Slice(keys, func(a, b int) bool { return keys[a] > keys[b] })
	for _, key := range append(keys, t.Key) {
		o.emit(left(key))
	}
}

// call is one of the work's.
type call struct {
	kind         int // CDeploy, CCreate, CComplete, CResolve, CCancel, CTimer; CMatch: Arrive
	text         string
	key, message uint64
	node         int
	vars         []api.Var
}

func (c call) do(w work) api.Errno {
	switch c.kind {
	case api.CDeploy:
		return w.Deploy(c.text)
	case api.CCreate:
		return w.Create(c.text, c.vars)
	case api.CComplete:
		return w.Complete(c.key, c.vars)
	case api.CResolve:
		return w.Resolve(c.key, c.vars)
	case api.CCancel:
		return w.Cancel(c.key)
	case api.CTimer:
		return w.Timer(c.key, c.node)
	}
	return w.Arrive(c.key, c.node, c.message, c.vars)
}

// tell is what a call should come to: its error, and what the events are then.
func (o *teller) tell(c call) api.Errno {
	state, events := o.s, len(o.events)
	o.steps = 0
	err := o.command(c)
	bytes := 0
	for _, r := range o.events {
		s, e := rec.Bytes(r)
		if bytes += len(s); err == api.OK && e != api.OK {
			err = api.ErrLong
		}
	}
	if err == api.OK && (bytes > 60000 || len(o.events) > 256) {
		err = api.ErrLong
	}
	if err != api.OK {
		o.s, o.events = state, o.events[:events]
	}
	return err
}

func (o *teller) command(c call) api.Errno {
	switch c.kind {
	case api.CDeploy:
		return o.deploy(c)
	case api.CCreate:
		return o.create(c)
	case api.CCancel:
		for _, x := range o.s.Insts {
			if x.Key == c.key {
				o.emit(cancelled(c.key))
				return api.OK
			}
		}
		return api.ErrNone
	}
	t, err := o.find(c)
	if err != api.OK {
		return err
	}
	all, err := o.put(c.vars)
	if err != api.OK {
		return err
	}
	if c.kind == api.CMatch {
		o.emit(kept(c.key, c.message, int64(c.node)))
	}
	if len(c.vars) > 0 {
		o.emit(setVars(o.inst, all...))
	}
	switch {
	case c.kind == api.CResolve:
		o.takeOff(t)
		o.enter(t.Node, t.By, t.Scope)
	case c.kind == api.CComplete || c.node == t.Node:
		o.emit(left(t.Key))
		o.follow(t.Node, t.Scope)
	default:
		o.takeOff(t)
		o.emit(passed(o.inst, t.Scope, int64(c.node)))
		o.follow(c.node, t.Scope)
	}
	return api.OK
}

func (o *teller) deploy(c call) api.Errno {
	p, err := model.Take(c.text)
	if err == api.OK {
		err, _ = model.Check(p)
	}
	if err != api.OK {
		return err
	}
	for _, x := range o.s.Insts {
		if x.Id == p.Id {
			return api.ErrState
		}
	}
	o.emit(deployed(p))
	return api.OK
}

// known makes the process of an Id the one that is gone through.
func (o *teller) known(id string) bool {
	for _, x := range o.s.Procs {
		if x.Id == id {
			p, err := model.Take(x.Bytes)
			wrong, _ := model.Check(p)
			o.p = p
			return err == api.OK && wrong == api.OK
		}
	}
	return false
}

func (o *teller) create(c call) api.Errno {
	if !o.known(c.text) {
		return api.ErrNone
	}
	if !value.Right(c.vars) {
		return api.ErrArg
	}
	o.inst = o.key()
	o.emit(began(o.inst, c.text, c.vars...))
	for i, x := range o.p.Nodes {
		if x.Kind == api.NStart && x.Parent == -1 {
			o.enter(i, -1, 0)
		}
	}
	return api.OK
}

// find is the token that a call is of, with the errors that are told ahead of those of
// variables.
func (o *teller) find(c call) (api.Token, api.Errno) {
	key := c.key
	switch c.kind {
	case api.CComplete:
		j, has := fold.Job(o.s, c.key)
		if !has {
			return api.Token{}, api.ErrNone
		}
		key = j.Token
	case api.CTimer:
		err := api.ErrNone
		for _, x := range o.s.Timers {
			if x.Token == c.key && x.Node == c.node {
				if err = api.OK; x.When > o.now {
					err = api.ErrState
				}
				break
			}
		}
		if err != api.OK {
			return api.Token{}, err
		}
	case api.CMatch:
		has := false
		for _, x := range o.s.Subs {
			has = has || x.Token == c.key && x.Node == c.node
		}
		if !has {
			return api.Token{}, api.ErrNone
		}
	}
	t, has := fold.Token(o.s, key)
	if !has {
		return api.Token{}, api.ErrNone
	}
	if c.kind == api.CResolve && t.Stuck == "" {
		return api.Token{}, api.ErrState
	}
	return t, o.tokenErrors(c, t)
}

func (o *teller) tokenErrors(c call, t api.Token) api.Errno {
	has := false
	for _, x := range o.s.Insts {
		if x.Key == t.Inst {
			has = o.known(x.Id)
			break
		}
	}
	if !has {
		return api.ErrNone
	}
	o.inst = t.Inst
	if t.Node < 0 || t.Node >= len(o.p.Nodes) {
		return api.ErrState
	}
	if (c.kind == api.CTimer || c.kind == api.CMatch) && (c.node < 0 || c.node >= len(o.p.Nodes)) {
		return api.ErrState
	}
	return api.OK
}

func (o *teller) put(vars []api.Var) ([]api.Var, api.Errno) {
	if !value.Right(vars) {
		return nil, api.ErrArg
	}
	var all []api.Var
	for _, x := range o.s.Insts {
		if x.Key == o.inst {
			all = x.Vars
			break
		}
	}
	for _, x := range vars {
		var err api.Errno
		if all, err = value.Put(all, x.Name, x.V); err != api.OK {
			return nil, api.ErrFull
		}
	}
	return all, api.OK
}
