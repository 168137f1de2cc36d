package flow_test

import (
	"fmt"
	"slices"
	"strings"
	"testing"

	"wherry/api"
	"wherry/fold"
	"wherry/model"
)

// wrongVars are variables that aren't right.
func wrongVars() map[string][]api.Var {
	var many []api.Var
	for i := range 17 {
		many = append(many, num(string(rune('a'+i)), 1))
	}
	return map[string][]api.Var{
		"no name": {num("", 1)}, "a word": {num("and", 1)}, "don't rise": {num("b", 1), num("a", 1)}, "twice": {num("a", 1), num("a", 1)}, "17 of them": many,
		"no kind": {{Name: "a"}}, "a Bool 2": {truth("a", 2)}, "a Text of 1025 bytes": {text("a", strings.Repeat("a", 1025))},
	}
}

// fifteen are variables a to o.
func fifteen() []api.Var {
	var l []api.Var
	for i := range 15 {
		l = append(l, num(string(rune('a'+i)), 1))
	}
	return l
}

// P15.2: Deploy's errors: Take's, Check's, then ErrState.
func TestDeployErrors(t *testing.T) {
	p := line()
	s := model.Bytes(p)
	w := begin(api.State{Insts: []api.Instance{{Key: 1, Id: "line"}, {Key: 2, Id: "p"}}}, 0, 9, 100)
	deploy := func(s string) func() api.Errno { return func() api.Errno { return w.Deploy(s) } }
	for what, x := range map[string]struct {
		s   string
		err api.Errno
	}{
		"nothing":               {"", api.ErrMore},
		"a piece":               {s[:len(s)-1], api.ErrMore},
		"more":                  {s + "\x00", api.ErrForm},
		"8193 bytes":            {strings.Repeat("\x00", 8193), api.ErrLong},
		"no nodes":              {model.Bytes(api.Process{Id: "line"}), api.ErrModel},
		"without an end's flow": {model.Bytes(api.Process{Id: "line", Nodes: p.Nodes, Flows: p.Flows[:1]}), api.ErrModel},
		"no name":               {model.Bytes(api.Process{Id: "", Nodes: p.Nodes, Flows: p.Flows}), api.ErrModel},
		"an instance":           {s, api.ErrState},
	} {
		if _, err := model.Take(x.s); x.err != api.ErrModel && x.err != api.ErrState && err != x.err {
			t.Fatalf("%s: Take says %d", what, err)
		}
		w.mustRefuse(t, what, deploy(x.s), x.err)
	}
	other := process(p.Nodes, p.Flows...)
	other.Id = "lin"
	w.mustDo(t, "of another Id", w.deploy(other), deployed(other))
}

// P15.2: Create's errors: no process, or one that may not be; then variables.
func TestCreateErrors(t *testing.T) {
	short := model.Bytes(line())
	bad := line()
	bad.Flows = bad.Flows[:1]
	w := open(t, line())
	s := w.State()
	s.Procs = append(s.Procs, api.Deployed{Id: "bad", Bytes: model.Bytes(bad)}, api.Deployed{Id: "piece", Bytes: short[:5]}, api.Deployed{Id: "", Bytes: ""},
		api.Deployed{Id: "two", Bytes: ""}, api.Deployed{Id: "two", Bytes: short}, api.Deployed{Id: "as", Bytes: short})
	w = begin(s, 0, 9, 100)
	for _, id := range []string{"no", "", "bad", "piece", "lin", "lines", "two", strings.Repeat("x", 5000)} {
		w.mustRefuse(t, id, w.create(id), api.ErrNone)
		for what, vars := range wrongVars() {
			w.mustRefuse(t, id+", "+what, w.create(id, vars...), api.ErrNone)
		}
	}
	for what, vars := range wrongVars() {
		w.mustRefuse(t, what, w.create("line", vars...), api.ErrArg)
	}
	w.mustDo(t, "under another Id than its own", w.create("as"), began(1, "as"), passed(1, 0, 0), entered(2, 1, 0, 1, 0), job(3, 2))
	sixteen := append(fifteen(), num("z", 1))
	w.mustDo(t, "with 16 variables", w.create("line", sixteen...), began(4, "line", sixteen...), passed(4, 0, 0), entered(5, 4, 0, 1, 0), job(6, 5))
}

// A state that no command made: an instance 1 of p (through a task), whose token 2 is
// stuck and has a job 5, a timer at time 50 and a subscription, each for its own node
// 1 and for the node 3.
func odd() api.State {
	p := with(through(node(api.NTask, "t"), at(1, node(api.NOnTime, "b"))), by(3, 2))
	return api.State{
		Made:   9,
		Procs:  []api.Deployed{{Id: "p", Bytes: model.Bytes(p)}},
		Insts:  []api.Instance{{Key: 1, Id: "p", Vars: fifteen()}},
		Tokens: []api.Token{{Key: 2, Inst: 1, Node: 1, Stuck: "job"}},
		Jobs:   []api.Job{{Key: 5, Token: 2, Type: "pay"}},
		Timers: []api.Timer{{Token: 2, Node: 1, When: 50}, {Token: 2, Node: 3, When: 50}, {Token: 2, Node: 4, When: 50}, {Token: 2, Node: 9, When: 51}},
		Subs:   []api.Sub{{Token: 2, Node: 1}, {Token: 2, Node: 3}, {Token: 2, Node: -1}},
	}
}

// fault makes one thing wrong in odd, or in what is handed in.
type fault struct {
	what string
	err  map[string]api.Errno // by the call; a call that isn't there doesn't mind
	harm func(s *api.State)
	vars []api.Var
}

// faults are the errors' causes in the order in which the calls tell them.
func faults() []fault {
	all := func(err api.Errno) map[string]api.Errno {
		return map[string]api.Errno{"Complete": err, "Resolve": err, "Timer": err, "Arrive": err}
	}
	vars := func(err api.Errno) map[string]api.Errno {
		return map[string]api.Errno{"Complete": err, "Resolve": err, "Arrive": err}
	}
	unready := line()
	unready.Flows = nil
	return []fault{
		{"no job", map[string]api.Errno{"Complete": api.ErrNone}, func(s *api.State) { s.Jobs = nil }, nil},
		{"no timer", map[string]api.Errno{"Timer": api.ErrNone}, func(s *api.State) { s.Timers = nil }, nil},
		{"no subscription", map[string]api.Errno{"Arrive": api.ErrNone}, func(s *api.State) { s.Subs = nil }, nil},
		{"not yet", map[string]api.Errno{"Timer": api.ErrState}, func(s *api.State) {
			s.Timers = slices.Clone(s.Timers)
			for i := range s.Timers {
				s.Timers[i].When = 51
			}
		}, nil},
		{"no token", all(api.ErrNone), func(s *api.State) { s.Tokens = nil }, nil},
		{"not stuck", map[string]api.Errno{"Resolve": api.ErrState}, func(s *api.State) { change(s, func(t *api.Token) { t.Stuck = "" }) }, nil},
		{"no instance", all(api.ErrNone), func(s *api.State) { s.Insts = nil }, nil},
		{"no process", all(api.ErrNone), func(s *api.State) { s.Procs = nil }, nil},
		{"bytes that are no process", all(api.ErrNone), func(s *api.State) { s.Procs = []api.Deployed{{Id: "p", Bytes: "x"}} }, nil},
		{"a process that may not be", all(api.ErrNone), func(s *api.State) { s.Procs = []api.Deployed{{Id: "p", Bytes: model.Bytes(unready)}} }, nil},
		{"a node below", all(api.ErrState), func(s *api.State) { change(s, func(t *api.Token) { t.Node = -1 }) }, nil},
		{"a node above", all(api.ErrState), func(s *api.State) { change(s, func(t *api.Token) { t.Node = 4 }) }, nil},
		{"wrong variables", vars(api.ErrArg), nil, []api.Var{num("z", 1), num("y", 1)}},
		{"no room for two", vars(api.ErrFull), nil, []api.Var{num("y", 1), num("z", 1)}},
	}
}

// change changes the tokens, in memory of their own.
func change(s *api.State, by func(t *api.Token)) {
	s.Tokens = slices.Clone(s.Tokens)
	for i := range s.Tokens {
		by(&s.Tokens[i])
	}
}

// calls are those that begin with a token, of odd.
func (w work) calls(vars []api.Var) map[string][]func() api.Errno {
	return map[string][]func() api.Errno{
		"Complete": {w.complete(5, vars...)},
		"Resolve":  {w.resolve(2, vars...)},
		"Timer":    {w.timer(2, 1), w.timer(2, 3)},
		"Arrive":   {w.arrive(2, 1, 7, vars...), w.arrive(2, 3, 7, vars...)},
	}
}

// P15.2: each call's errors, alone and two by two: the one that is told first is the
// answer, and nothing has changed.
func TestErrorsInOrder(t *testing.T) {
	l := faults()
	for i, a := range l {
		for _, b := range l[i:] {
			s, vars := odd(), a.vars
			for _, x := range []fault{b, a} {
				if x.harm != nil {
					x.harm(&s)
				}
			}
			if vars == nil {
				vars = b.vars
			}
			for call := range begin(s, 0, 9, 50).calls(nil) {
				want, minds := a.err[call]
				if !minds {
					want = b.err[call]
				}
				for k := range begin(s, 0, 9, 50).calls(vars)[call] {
					w := begin(s, 0, 9, 50)
					do := w.calls(vars)[call][k]
					what := fmt.Sprintf("%s %d: %s, %s", call, k, a.what, b.what)
					if want != api.OK {
						w.mustRefuse(t, what, do, want)
					} else if err := do(); err != api.OK {
						t.Errorf("%s: %d", what, err)
					}
				}
			}
		}
	}
}

// P15.2: the numbers that calls are given: those of no job, token, timer or
// subscription; nodes that are none of the process.
func TestNumbers(t *testing.T) {
	s := odd()
	s.Timers = append(s.Timers, api.Timer{Token: 2, Node: -1}, api.Timer{Token: 2, Node: 1 << 40}, api.Timer{Token: 8, Node: 1})
	s.Subs = append(s.Subs, api.Sub{Token: 2, Node: 4}, api.Sub{Token: 2, Node: 1 << 40}, api.Sub{Token: 8, Node: 1})
	s.Jobs = append(s.Jobs, api.Job{Key: 6, Token: 8}, api.Job{Key: 7, Token: 0})
	w := begin(s, 0, 9, 50)
	bad := []api.Var{{}}
	for _, key := range []uint64{0, 1, 2, 3, 4, 6, 7, 1<<32 + 5, 1<<64 - 1} {
		w.mustRefuse(t, "Complete", w.complete(key, bad...), api.ErrNone)
	}
	for _, key := range []uint64{0, 1, 3, 5, 8, 1<<32 + 2, 1<<64 - 1} {
		w.mustRefuse(t, "Resolve", w.resolve(key, bad...), api.ErrNone)
		w.mustRefuse(t, "Timer", w.timer(key, 1), api.ErrNone)
		w.mustRefuse(t, "Arrive", w.arrive(key, 1, 7, bad...), api.ErrNone)
	}
	for _, n := range []int{0, 2, 5, 1<<32 + 1, -2} {
		w.mustRefuse(t, "Timer, no such node", w.timer(2, n), api.ErrNone)
		w.mustRefuse(t, "Arrive, no such node", w.arrive(2, n, 7, bad...), api.ErrNone)
	}
	w.mustRefuse(t, "Timer of another time", w.timer(2, 9), api.ErrState)
	for _, n := range []int{-1, 4, 1 << 40} {
		w.mustRefuse(t, "Timer, a node of no process", w.timer(2, n), api.ErrState)
		w.mustRefuse(t, "Arrive, a node of no process", w.arrive(2, n, 7, bad...), api.ErrState)
	}
}

// P15.2: the first element of a key is the one that counts, where there are several.
func TestFirstOfSeveral(t *testing.T) {
	s := odd()
	s.Procs = append(s.Procs, api.Deployed{Id: "p", Bytes: ""}, api.Deployed{Id: "q", Bytes: ""})
	s.Insts = append(s.Insts, api.Instance{Key: 1, Id: "q"})
	s.Tokens = append(s.Tokens, api.Token{Key: 2, Inst: 4})
	s.Jobs = append(s.Jobs, api.Job{Key: 5, Token: 4})
	s.Timers = append(s.Timers, api.Timer{Token: 2, Node: 1, When: 99})
	for _, call := range []string{"Complete", "Resolve", "Timer", "Arrive"} {
		if err := begin(s, 0, 9, 50).calls(nil)[call][0](); err != api.OK {
			t.Errorf("%s: %d", call, err)
		}
	}
	slices.Reverse(s.Timers)
	w := begin(s, 0, 9, 50)
	w.mustRefuse(t, "the other timer first", w.timer(2, 1), api.ErrState)
	slices.Reverse(s.Tokens)
	w = begin(s, 0, 9, 50)
	w.mustRefuse(t, "the other token first", w.complete(5), api.ErrNone)
}

// P15.2: variables are put one by one: new ones, others in the place of old ones, none;
// EVars tells all of them.
func TestVars(t *testing.T) {
	s := odd()
	old := fifteen()
	changed := fifteen()
	changed[0], changed[14] = text("a", "x"), num("o", 9)
	full := slices.Concat(old, []api.Var{num("z", 1)})
	for what, x := range map[string]struct{ give, all []api.Var }{
		"none":                   {nil, nil},
		"an empty list":          {[]api.Var{}, nil},
		"one more":               {[]api.Var{num("z", 1)}, full},
		"of names that it has":   {[]api.Var{text("a", "x"), num("o", 9)}, changed},
		"as they are":            {[]api.Var{num("a", 1)}, old},
		"16, of which it has 15": {full, full},
	} {
		var set []api.Record
		if x.all != nil {
			set = []api.Record{setVars(1, x.all...)}
		}
		then := func(l ...api.Record) []api.Record { return slices.Concat(set, l) }
		w := begin(s, 0, 9, 50)
		w.mustDo(t, what, w.complete(5, x.give...), then(left(2), passed(1, 0, 2), ended(1))...)
		w = begin(s, 0, 9, 50)
		w.mustDo(t, what, w.resolve(2, x.give...), then(left(2), entered(10, 1, 0, 1, 0), timer(10, 3, 55), job(11, 10))...)
		w = begin(s, 0, 9, 50)
		w.mustDo(t, what, w.arrive(2, 3, 7, x.give...), slices.Concat([]api.Record{kept(2, 7, 3)}, then(left(2), passed(1, 0, 3), passed(1, 0, 2), ended(1)))...)
	}
	for what, vars := range wrongVars() {
		for call, l := range begin(s, 0, 9, 50).calls(vars) {
			w := begin(s, 0, 9, 50)
			for k := range l {
				if call != "Timer" {
					w.mustRefuse(t, call+", "+what, w.calls(vars)[call][k], api.ErrArg)
				}
			}
		}
	}
}

// P15.2: nothing can be put into variables that aren't right; without any to put, they
// don't matter.
func TestVarsOfAnOddInstance(t *testing.T) {
	for what, vars := range wrongVars() {
		s := odd()
		s.Insts[0].Vars = vars
		for call, l := range begin(s, 0, 9, 50).calls([]api.Var{num("a", 1)}) {
			w := begin(s, 0, 9, 50)
			for k := range l {
				if call != "Timer" {
					w.mustRefuse(t, call+", "+what, w.calls([]api.Var{num("a", 1)})[call][k], api.ErrFull)
				}
			}
		}
		w := begin(s, 0, 9, 50)
		w.mustDo(t, what, w.complete(5), left(2), passed(1, 0, 2), ended(1))
	}
}

// P15.2: of variables that aren't right nothing can be reckoned.
func TestReckonWithAnOddInstance(t *testing.T) {
	p := process([]api.Node{node(api.NStart, "s"), node(api.NTask, "t"), node(api.NXor, "x"), node(api.NEnd, "e")}, by(0, 1), by(1, 2), when(2, 3, "true"))
	c := process([]api.Node{node(api.NStart, "s"), node(api.NTask, "t"), keyed("m", "1", node(api.NCatch, "c")), node(api.NEnd, "e")}, by(0, 1), by(1, 2), by(2, 3))
	s := odd()
	s.Insts[0].Vars = []api.Var{{}}
	s.Procs[0].Bytes = model.Bytes(p)
	w := begin(s, 0, 9, 50)
	w.mustDo(t, "a condition", w.complete(5), left(2), entered(10, 1, 0, 2, 1), stuck(10, "cond"))
	s.Procs[0].Bytes = model.Bytes(c)
	w = begin(s, 0, 9, 50)
	w.mustDo(t, "a key", w.complete(5), left(2), entered(10, 1, 0, 2, 1), stuck(10, "key"))
}

// P15.2: a refused command of a work that has events leaves these.
func TestRefusedBehindEvents(t *testing.T) {
	w := begin(odd(), 0, 9, 50)
	w.mustDo(t, "cancelled, another one", w.create("p"), began(10, "p"), passed(10, 0, 0), entered(11, 10, 0, 1, 0), timer(11, 3, 55), job(12, 11))
	before := w.State()
	for call, l := range w.calls([]api.Var{{}}) {
		if call != "Timer" {
			for _, do := range l {
				w.mustRefuse(t, call, do, api.ErrArg)
			}
		}
	}
	w.mustRefuse(t, "Timer", w.timer(11, 3), api.ErrState)
	if !fold.Same(before, w.State()) {
		t.Errorf("%+v", w.State())
	}
	w.mustDo(t, "then one that is done", w.complete(12), left(11), passed(10, 0, 2), ended(10))
}
