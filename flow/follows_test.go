package flow_test

import (
	"fmt"
	"math/rand"
	"slices"
	"testing"

	"wherry/api"
	"wherry/fold"
	"wherry/model"
	"wherry/rec"
)

// pick is one of these.
func pick[T any](g *rand.Rand, l ...T) T { return l[g.Intn(len(l))] }

// maker makes a process that may be, whatever g says.
type maker struct {
	g *rand.Rand
	p api.Process
}

func (m *maker) add(kind, parent, host int) int {
	n := in(parent, at(host, node(kind, fmt.Sprintf("n%d", len(m.p.Nodes)))))
	switch kind {
	case api.NCatch, api.NOnMsg:
		n.Type, n.Key = pick(m.g, "paid", "sent"), pick(m.g, "k", "1", "a + 1", "b", "no", "k + k")
	case api.NTimer, api.NOnTime:
		n.N = 1 + m.g.Int63n(3)
	}
	m.p.Nodes = append(m.p.Nodes, n)
	return len(m.p.Nodes) - 1
}

func (m *maker) link(from, to int) {
	f := by(from, to)
	if m.p.Nodes[from].Kind == api.NXor {
		f.Cond = pick(m.g, "true", "false", "a < 2", "a > 2", "b", "not b", "no", "1", "", "", "")
		same := func(x api.Flow) bool { return x.From == from && x.Cond == "" }
		if f.Cond == "" && slices.ContainsFunc(m.p.Flows, same) {
			f.Cond = "a == 1"
		}
	}
	m.p.Flows = append(m.p.Flows, f)
}

// scope makes one: its start leads to a hub, which leads to every node that nothing
// else leads to.
func (m *maker) scope(parent, deep int) {
	start := m.add(api.NStart, parent, -1)
	hub := m.add(pick(m.g, api.NXor, api.NAnd, api.NAnd), parent, -1)
	nodes := []int{hub}
	// Most often somebody waits first, so that no end ends the scope at once.
	waits := m.g.Intn(4) > 0
	if waits {
		nodes = append(nodes, m.add(pick(m.g, api.NTask, api.NCatch, api.NTimer), parent, -1))
	}
	for range 1 + m.g.Intn(4) {
		kind := pick(m.g, api.NTask, api.NXor, api.NAnd, api.NCatch, api.NTimer, api.NSub, api.NEnd)
		if kind == api.NSub && (deep == 0 || len(m.p.Nodes) > 20) {
			kind = api.NTask
		}
		nodes = append(nodes, m.add(kind, parent, -1))
	}
	nodes = append(nodes, m.add(api.NEnd, parent, -1))
	m.link(start, hub)
	led := map[int]bool{hub: true}
	if waits {
		led[nodes[1]] = true
		m.link(hub, nodes[1])
	}
	for _, n := range nodes[1:] {
		if m.p.Nodes[n].Kind != api.NEnd {
			to := pick(m.g, nodes...)
			led[to] = true
			m.link(n, to)
		}
	}
	for _, n := range nodes {
		if !led[n] {
			m.link(hub, n)
		}
	}
	if !slices.ContainsFunc(m.p.Flows, func(f api.Flow) bool { return f.From == hub }) {
		m.link(hub, pick(m.g, nodes...))
	}
	for _, n := range nodes {
		switch m.p.Nodes[n].Kind {
		case api.NTask, api.NCatch, api.NTimer, api.NSub:
			for range m.g.Intn(3) {
				if len(m.p.Nodes) < 30 {
					m.link(m.add(pick(m.g, api.NOnMsg, api.NOnTime), parent, n), pick(m.g, nodes...))
				}
			}
		}
	}
	for _, n := range nodes {
		if m.p.Nodes[n].Kind == api.NSub {
			m.scope(n, deep-1)
		}
	}
}

// made is a process, if it may be.
func made(g *rand.Rand, id string) (api.Process, bool) {
	m := &maker{g: g, p: api.Process{Id: id}}
	m.scope(-1, 2)
	err, _ := model.Check(m.p)
	return m.p, err == api.OK
}

// someVars are variables that processes ask for, most often right.
func someVars(g *rand.Rand) []api.Var {
	l := []api.Var{num("a", g.Int63n(4)), truth("b", g.Int63n(2)), text("k", pick(g, "x", "", "key"))}
	switch g.Intn(12) {
	case 0:
		return []api.Var{num("b", 1), num("a", 1)}
	case 1:
		return pick(g, fifteen()[2:12], []api.Var{num("v1", 1), num("v2", 2), num("v3", 3)}, []api.Var{num("w1", 1), num("w2", 2)})
	case 2:
		return []api.Var{text("k", fmt.Sprintf("%1024d", g.Intn(9)))}
	case 3:
		return []api.Var{num("b", 1)}
	}
	return l[g.Intn(2) : 2+g.Intn(2)]
}

// next is a call of a state: most often one that it has something for.
func next(g *rand.Rand, s api.State) call {
	c := call{key: uint64(g.Intn(int(s.Made%1000) + 3)), node: g.Intn(8) - 1, message: uint64(g.Intn(9)), text: pick(g, "p", "q", "no")}
	c.kind = pick(g, api.CDeploy, api.CCreate, api.CCancel, api.CComplete, api.CComplete, api.CResolve, api.CResolve, api.CTimer, api.CTimer, api.CMatch, api.CMatch)
	if c.kind != api.CTimer && g.Intn(3) > 0 {
		c.vars = someVars(g)
	}
	if c.kind == api.CDeploy {
		p, _ := made(g, pick(g, "p", "q"))
		c.text = model.Bytes(p)[g.Intn(8)/7:]
	}
	if g.Intn(8) == 0 {
		return c
	}
	switch {
	case len(s.Tokens) == 0 && c.kind != api.CDeploy:
		c.kind, c.text = api.CCreate, "p"
	case c.kind == api.CComplete && len(s.Jobs) > 0:
		c.key = pick(g, s.Jobs...).Key
	case c.kind == api.CResolve && len(s.Tokens) > 0:
		c.key = pick(g, s.Tokens...).Key
		for range 5 {
			if x := pick(g, s.Tokens...); x.Stuck != "" {
				c.key = x.Key
			}
		}
	case c.kind == api.CTimer && len(s.Timers) > 0:
		x := pick(g, s.Timers...)
		c.key, c.node = x.Token, x.Node
	case c.kind == api.CMatch && len(s.Subs) > 0:
		x := pick(g, s.Subs...)
		c.key, c.node = x.Token, x.Node
	}
	return c
}

// harm makes a state one that no command made.
func harm(g *rand.Rand, s api.State) api.State {
	s = fold.Clone(s)
	key := func() uint64 { return uint64(g.Intn(int(s.Made%1000) + 2)) }
	for range 1 + g.Intn(4) {
		if len(s.Tokens) > 0 {
			x := &s.Tokens[g.Intn(len(s.Tokens))]
			switch g.Intn(8) {
			case 0:
				x.Scope = pick(g, s.Tokens...).Key
			case 1:
				x.Node = g.Intn(12) - 1
			case 2:
				x.Inst = key()
			case 3:
				x.By = g.Intn(12) - 1
			case 4:
				x.Stuck = pick(g, "", "job")
			case 5:
				y := api.Token{Key: s.Made + 1000 + uint64(g.Intn(50)), Inst: x.Inst, Scope: x.Scope, Node: x.Node, By: g.Intn(9)}
				s.Tokens = append(s.Tokens, y)
			case 6:
				x.Key = pick(g, s.Tokens...).Key
			case 7:
				y := *x
				y.Scope = pick(g, append(s.Tokens, y)...).Key
				s.Tokens = slices.Insert(s.Tokens, g.Intn(len(s.Tokens)+1), y)
			}
		}
		switch g.Intn(9) {
		case 0:
			s.Timers = append(s.Timers, api.Timer{Token: key(), Node: g.Intn(9) - 1})
		case 1:
			s.Subs = append(s.Subs, api.Sub{Token: key(), Node: g.Intn(9) - 1})
		case 2:
			s.Jobs = append(s.Jobs, api.Job{Key: key(), Token: key()})
		case 3:
			s.Insts = s.Insts[:g.Intn(len(s.Insts)+1)]
		case 4:
			s.Procs = s.Procs[:g.Intn(len(s.Procs)+1)]
		case 5:
			for i := range s.Insts {
				s.Insts[i].Vars = pick(g, someVars(g), fifteen())
			}
		}
	}
	return s
}

// steps is how many nodes a command entered, as its events tell it: those that wait and
// NAnd by EEntered, unless they got stuck for that; the others by EPassed.
func steps(p api.Process, l []api.Record) int {
	n := 0
	for i, r := range l {
		switch r.Kind {
		case api.EEntered:
			if i+1 == len(l) || l[i+1].Kind != api.EStuck || l[i+1].A != "loop" {
				n++
			}
		case api.EPassed:
			switch p.Nodes[r.N].Kind {
			case api.NStart, api.NEnd, api.NXor:
				n++
			}
		}
	}
	return n
}

// against is a work beside what the words say of it.
type against struct {
	w work
	o *teller
}

func stand(s api.State, part int, pos uint64, now int64) against {
	return against{begin(s, part, pos, now), &teller{s: fold.Clone(s), part: part, pos: pos, now: now}}
}

// mustAgree: a call comes to what the words say; the state is what the events make of
// the one that the work began with.
func (x against) mustAgree(t *testing.T, c call) (api.Errno, []api.Record) {
	t.Helper()
	ahead, from := x.w.Events(), x.w.State()
	want := x.o.tell(c)
	if err := c.do(x.w); err != want {
		t.Fatalf("%+v of %+v: %d, want %d", c, from, err, want)
	}
	l := x.w.Events()
	if !slices.EqualFunc(l, x.o.events, rec.Same) {
		t.Fatalf("%+v of %+v:\n%+v, want\n%+v", c, from, l, x.o.events)
	}
	x.w.mustTell(t, "P15.3", l)
	if want != api.OK && !fold.Same(from, x.w.State()) {
		t.Fatalf("%+v of %+v: refused, but changed", c, from)
	}
	return want, l[len(ahead):]
}

// P15.2, P15.3: runs of commands, each a work of its own, over random processes, come
// to what the words say; each instance has a token; no command takes more than 40
// steps. Behind each of them a state that no command made is tried too.
func TestRandomRuns(t *testing.T) {
	g := rand.New(rand.NewSource(15))
	answers, told := map[api.Errno]int{}, map[int]int{}
	for range 700 {
		p, ok := made(g, "p")
		if !ok {
			continue
		}
		part := g.Intn(3)
		s := api.State{Procs: []api.Deployed{{Id: "p", Bytes: model.Bytes(p)}}}
		now := g.Int63n(5)
		for pos := range uint64(30) {
			if g.Intn(3) == 0 {
				now++
			}
			c := next(g, s)
			if pos == 0 {
				c = call{kind: api.CCreate, text: "p", vars: []api.Var{num("a", 1), truth("b", 1), text("k", "x")}}
			}
			if c.kind == api.CDeploy { // One process all along, so that its events tell its nodes.
				c.text = c.text[:len(c.text)-1]
			}
			x := stand(s, part, pos+1, now)
			err, l := x.mustAgree(t, c)
			answers[err]++
			for _, r := range l {
				told[r.Kind]++
			}
			s = x.w.State()
			mustBeRight(t, p, s, l)
			odd := stand(harm(g, s), part, pos+2, now)
			for range 3 {
				err, _ := odd.mustAgree(t, next(g, odd.w.State()))
				answers[err]++
			}
		}
	}
	for _, err := range []api.Errno{api.OK, api.ErrArg, api.ErrNone, api.ErrState, api.ErrFull} {
		if answers[err] == 0 {
			t.Errorf("the error %d was never told: %v", err, answers)
		}
	}
	for _, kind := range []int{api.EBegan, api.EEntered, api.ELeft, api.EPassed, api.EJob, api.EVars, api.ETimer, api.ESub, api.EStuck, api.EEnded, api.ECancelled, api.EKept} {
		if told[kind] < 20 {
			t.Errorf("an event of kind %d was told %d times", kind, told[kind])
		}
	}
}

// mustBeRight: P15.3 of a state that commands made.
func mustBeRight(t *testing.T, p api.Process, s api.State, l []api.Record) {
	t.Helper()
	if n := steps(p, l); n > 40 {
		t.Fatalf("%d steps: %+v", n, l)
	}
	for _, x := range s.Insts {
		if !slices.ContainsFunc(s.Tokens, func(t api.Token) bool { return t.Inst == x.Key }) {
			t.Fatalf("no token of %d: %+v", x.Key, s)
		}
	}
}

// P15.2, P15.3: several commands of one work, behind one another, with processes that
// are deployed among them.
func TestRandomWorks(t *testing.T) {
	g := rand.New(rand.NewSource(16))
	answers := map[api.Errno]int{}
	for range 150 {
		p, ok := made(g, "p")
		if !ok {
			continue
		}
		x := stand(api.State{Procs: []api.Deployed{{Id: "p", Bytes: model.Bytes(p)}}}, g.Intn(4), 7, g.Int63n(9))
		for range 25 {
			s := x.w.State()
			for i := range s.Timers {
				s.Timers[i].When = x.w.Now()
			}
			err, _ := x.mustAgree(t, next(g, s))
			answers[err]++
		}
	}
	for _, err := range []api.Errno{api.OK, api.ErrArg, api.ErrNone, api.ErrState, api.ErrLong} {
		if answers[err] == 0 {
			t.Errorf("the error %d was never told: %v", err, answers)
		}
	}
}

// R4: the same calls come to the same.
func TestAgain(t *testing.T) {
	g := rand.New(rand.NewSource(17))
	for range 60 {
		p, ok := made(g, "p")
		if !ok {
			continue
		}
		seed := g.Int63()
		var all [2][]api.Record
		for i := range all {
			h := rand.New(rand.NewSource(seed))
			w := begin(api.State{Procs: []api.Deployed{{Id: "p", Bytes: model.Bytes(p)}}}, 1, 7, 3)
			for range 12 {
				next(h, w.State()).do(w)
			}
			all[i] = w.Events()
		}
		if !slices.EqualFunc(all[0], all[1], rec.Same) {
			t.Fatalf("%+v and %+v", all[0], all[1])
		}
	}
}
