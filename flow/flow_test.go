package flow_test

import (
	"math"
	"reflect"
	"slices"
	"strings"
	"testing"

	"wherry/api"
	"wherry/flow"
	"wherry/fold"
	"wherry/model"
	"wherry/rec"
)

// num, truth and text are variables.
func num(name string, n int64) api.Var {
	return api.Var{Name: name, V: api.Value{Kind: api.Int, N: n}}
}
func truth(name string, n int64) api.Var {
	return api.Var{Name: name, V: api.Value{Kind: api.Bool, N: n}}
}
func text(name, s string) api.Var {
	return api.Var{Name: name, V: api.Value{Kind: api.Text, S: s}}
}

// node is one of a kind, with all that its kind must have; of NOnMsg and NOnTime
// the host is left to who asks.
func node(kind int, name string) api.Node {
	n := api.Node{Kind: kind, Parent: -1, Host: -1, Name: name}
	switch kind {
	case api.NTask:
		n.Type, n.N = "pay", 3
	case api.NCatch, api.NOnMsg:
		n.Type, n.Key = "paid", "k"
	case api.NTimer, api.NOnTime:
		n.N = 5
	}
	return n
}

// in is a node within an NSub, at is one that sits at a host, keyed is one of a
// message of that name and key.
func in(parent int, n api.Node) api.Node {
	n.Parent = parent
	return n
}
func at(host int, n api.Node) api.Node {
	n.Host = host
	return n
}
func keyed(name, key string, n api.Node) api.Node {
	n.Type, n.Key = name, key
	return n
}

// by is a flow without a condition, when is one with it.
func by(from, to int) api.Flow                { return api.Flow{From: from, To: to} }
func when(from, to int, cond string) api.Flow { return api.Flow{From: from, To: to, Cond: cond} }

func process(nodes []api.Node, flows ...api.Flow) api.Process {
	return api.Process{Id: "p", Nodes: nodes, Flows: flows}
}

// line is chapter 11's first example: a start 0, a task 1, an end 2.
func line() api.Process {
	p := through(node(api.NTask, "t"))
	p.Id = "line"
	return p
}

// through is a start 0, this node 1, an end 2; others stand behind them.
func through(n api.Node, more ...api.Node) api.Process {
	return process(append([]api.Node{node(api.NStart, "s"), n, node(api.NEnd, "e")}, more...), by(0, 1), by(1, 2))
}

// with is a process with flows more.
func with(p api.Process, flows ...api.Flow) api.Process {
	p.Flows = append(slices.Clone(p.Flows), flows...)
	return p
}

// What the events are: each with the fields that the chapter tells.
func deployed(p api.Process) api.Record {
	return api.Record{Kind: api.EDeployed, A: p.Id, B: model.Bytes(p)}
}
func began(key uint64, id string, vars ...api.Var) api.Record {
	return api.Record{Kind: api.EBegan, Key: key, A: id, Vars: vars}
}
func entered(key, inst, scope uint64, node, by int64) api.Record {
	return api.Record{Kind: api.EEntered, Key: key, Key2: inst, Key3: scope, N: node, M: by}
}
func left(key uint64) api.Record { return api.Record{Kind: api.ELeft, Key: key} }
func passed(inst, scope uint64, node int64) api.Record {
	return api.Record{Kind: api.EPassed, Key2: inst, Key3: scope, N: node}
}
func job(key, token uint64) api.Record {
	return api.Record{Kind: api.EJob, Key: key, Key2: token, A: "pay", N: 3}
}
func setVars(inst uint64, vars ...api.Var) api.Record {
	return api.Record{Kind: api.EVars, Key: inst, Vars: vars}
}
func timer(token uint64, node, when int64) api.Record {
	return api.Record{Kind: api.ETimer, Key: token, N: node, M: when}
}
func sub(token, inst uint64, node int64, name, key string) api.Record {
	return api.Record{Kind: api.ESub, Key: token, Key2: inst, N: node, A: name, B: key}
}
func stuck(token uint64, why string) api.Record {
	return api.Record{Kind: api.EStuck, Key: token, A: why}
}
func ended(inst uint64) api.Record     { return api.Record{Kind: api.EEnded, Key: inst} }
func cancelled(inst uint64) api.Record { return api.Record{Kind: api.ECancelled, Key: inst} }
func kept(token, message uint64, node int64) api.Record {
	return api.Record{Kind: api.EKept, Key: token, Key2: message, N: node}
}

// work is one that is held against what its events make of the state that it began
// with.
type work struct {
	*flow.Work
	from api.State
}

func begin(s api.State, part int, pos uint64, now int64) work {
	return work{flow.Begin(s, part, pos, now), fold.Clone(s)}
}

// open is the work of the command 9, at time 100 on partition 0, where these
// processes are deployed.
func open(t *testing.T, l ...api.Process) work {
	t.Helper()
	w := flow.Begin(api.State{}, 0, 1, 0)
	for _, p := range l {
		if err := w.Deploy(model.Bytes(p)); err != api.OK {
			_, at := model.Check(p)
			t.Fatalf("%s may not be: %d at %d", p.Id, err, at)
		}
	}
	return begin(w.State(), 0, 9, 100)
}

// mustTell: the work's events are those ahead and these; its state is what they make
// (P15.3).
func (w work) mustTell(t *testing.T, what string, ahead []api.Record, l ...api.Record) {
	t.Helper()
	want := slices.Clone(ahead)
	for _, r := range l {
		r.Class, r.From, r.Time = api.Event, w.Pos(), w.Now()
		want = append(want, r)
	}
	got := w.Events()
	if !slices.EqualFunc(got, want, rec.Same) {
		t.Fatalf("%s:\n%+v, want\n%+v", what, got[min(len(ahead), len(got)):], want[len(ahead):])
	}
	s := w.from
	for _, r := range want {
		s = fold.Apply(s, s.Pos+1, r)
	}
	if !fold.Same(w.State(), s) {
		t.Fatalf("%s: the state\n%+v, want\n%+v", what, w.State(), s)
	}
}

// mustDo: a command is done, and makes these events.
func (w work) mustDo(t *testing.T, what string, do func() api.Errno, l ...api.Record) {
	t.Helper()
	ahead := w.Events()
	if err := do(); err != api.OK {
		t.Fatalf("%s: %d", what, err)
	}
	w.mustTell(t, what, ahead, l...)
}

// mustRefuse: a command is refused, and the work is as it was.
func (w work) mustRefuse(t *testing.T, what string, do func() api.Errno, want api.Errno) {
	t.Helper()
	ahead, state, key := w.Events(), w.State(), w.Key()
	if err := do(); err != want {
		t.Errorf("%s: %d, want %d", what, err, want)
	}
	w.mustTell(t, what, ahead)
	if !fold.Same(w.State(), state) || w.Key() != key {
		t.Errorf("%s: refused, but the work has changed", what)
	}
}

// The commands as closures.
func (w work) deploy(p api.Process) func() api.Errno {
	return func() api.Errno { return w.Deploy(model.Bytes(p)) }
}
func (w work) create(id string, vars ...api.Var) func() api.Errno {
	return func() api.Errno { return w.Create(id, vars) }
}
func (w work) complete(job uint64, vars ...api.Var) func() api.Errno {
	return func() api.Errno { return w.Complete(job, vars) }
}
func (w work) resolve(token uint64, vars ...api.Var) func() api.Errno {
	return func() api.Errno { return w.Resolve(token, vars) }
}
func (w work) cancel(inst uint64) func() api.Errno {
	return func() api.Errno { return w.Cancel(inst) }
}
func (w work) timer(token uint64, node int) func() api.Errno {
	return func() api.Errno { return w.Timer(token, node) }
}
func (w work) arrive(token uint64, node int, message uint64, vars ...api.Var) func() api.Errno {
	return func() api.Errno { return w.Arrive(token, node, message, vars) }
}

// P15.2: the chapter's example, as its words tell it.
func TestExample(t *testing.T) {
	w := begin(api.State{}, 0, 1, 0)
	w.mustDo(t, "deployed", w.deploy(line()), deployed(line()))
	w.mustDo(t, "created", w.create("line"), began(1, "line"), passed(1, 0, 0), entered(2, 1, 0, 1, 0), job(3, 2))
	w.mustDo(t, "completed", w.complete(3), left(2), passed(1, 0, 2), ended(1))
	w.mustRefuse(t, "again", w.complete(3), api.ErrNone)
}

// R1: a nil work answers ErrArg, the zero value, nothing.
func TestNilWork(t *testing.T) {
	var none *flow.Work
	w := work{Work: none}
	none.Emit(api.Record{Kind: api.EDone})
	if s := none.State(); !reflect.DeepEqual(s, api.State{}) {
		t.Errorf("State: %+v", s)
	}
	if len(none.Events()) != 0 || none.Key() != 0 || none.Now() != 0 || none.Pos() != 0 {
		t.Errorf("%v %d %d %d", none.Events(), none.Key(), none.Now(), none.Pos())
	}
	for what, do := range map[string]func() api.Errno{
		"Deploy": w.deploy(line()), "Deploy of no process": w.deploy(api.Process{}), "Create": w.create("line"), "Create with wrong vars": w.create("line", api.Var{}),
		"Complete": w.complete(1), "Resolve": w.resolve(1), "Cancel": w.cancel(1), "Timer": w.timer(1, 1), "Arrive": w.arrive(1, 1, 1),
	} {
		if err := do(); err != api.ErrArg {
			t.Errorf("%s: %d", what, err)
		}
	}
}

// P15.1: Begin is a work of what it is given, without events.
func TestBegin(t *testing.T) {
	s := sample()
	for _, x := range []struct {
		part int
		pos  uint64
		now  int64
	}{{0, 1, 0}, {1, 9, 100}, {3, math.MaxUint64, math.MaxInt64}, {-1, 0, math.MinInt64}} {
		w := flow.Begin(s, x.part, x.pos, x.now)
		if !fold.Same(w.State(), s) || len(w.Events()) != 0 || w.Now() != x.now || w.Pos() != x.pos {
			t.Errorf("%+v: %+v, %v, at %d, of %d", x, w.State(), w.Events(), w.Now(), w.Pos())
		}
	}
	w := flow.Begin(api.State{}, 0, 0, 0)
	if !fold.Same(w.State(), api.State{}) || w.Key() != 1 {
		t.Errorf("%+v, %d", w.State(), w.Key())
	}
}

// sample is a state that has something in each of its lists.
func sample() api.State {
	v := func(n int64) []api.Var { return []api.Var{num("v", n)} }
	return api.State{
		Pos: 40, Done: 30, Made: 20,
		Procs:    []api.Deployed{{Id: "line", Bytes: model.Bytes(line())}},
		Insts:    []api.Instance{{Key: 5, Id: "line", Vars: v(5)}},
		Tokens:   []api.Token{{Key: 10, Inst: 5, Node: 1}},
		Jobs:     []api.Job{{Key: 20, Token: 10, Type: "pay", Retries: 3}},
		Timers:   []api.Timer{{Token: 10, Node: 1, When: 60}},
		Subs:     []api.Sub{{Token: 10, Inst: 5, Node: 1, Name: "m", Key: "k"}},
		Kept:     []api.Kept{{Token: 10, Message: 31, Node: 1}},
		Listed:   []api.Listed{{Token: 10, Inst: 5, Node: 1, Name: "m", Key: "k", Message: 33, Vars: v(6)}},
		Messages: []api.Message{{Key: 33, Name: "m", For: "k", Until: 90, Vars: v(7), Insts: []uint64{5}}},
	}
}

// spoil writes into every list of a state, its spare room too.
func spoil(s api.State) {
	for _, x := range s.Insts {
		clear(x.Vars[:cap(x.Vars)])
	}
	for _, x := range s.Listed {
		clear(x.Vars[:cap(x.Vars)])
	}
	for _, x := range s.Messages {
		clear(x.Vars[:cap(x.Vars)])
		clear(x.Insts[:cap(x.Insts)])
	}
	clear(s.Procs[:cap(s.Procs)])
	clear(s.Insts[:cap(s.Insts)])
	clear(s.Tokens[:cap(s.Tokens)])
	clear(s.Jobs[:cap(s.Jobs)])
	clear(s.Timers[:cap(s.Timers)])
	clear(s.Subs[:cap(s.Subs)])
	clear(s.Kept[:cap(s.Kept)])
	clear(s.Listed[:cap(s.Listed)])
	clear(s.Messages[:cap(s.Messages)])
}

// P15.1, R3: a work's state is its own: neither the one that it began with, nor one
// that it told, nor the events that it told, nor the variables that it was given are
// the memory that it works with.
func TestTheStateIsItsOwn(t *testing.T) {
	s := sample()
	w := begin(s, 0, 41, 7)
	spoil(s)
	if !fold.Same(w.State(), sample()) {
		t.Fatalf("changed with what it began with: %+v", w.State())
	}
	spoil(w.State())
	if !fold.Same(w.State(), sample()) {
		t.Fatalf("changed with what it told: %+v", w.State())
	}
	vars := append([]api.Var{num("a", 1), num("b", 2)}, num("spare", 3))
	w.mustDo(t, "created", w.create("line", vars[:2]...), began(21, "line", num("a", 1), num("b", 2)), passed(21, 0, 0), entered(22, 21, 0, 1, 0), job(23, 22))
	if vars[2] != num("spare", 3) {
		t.Errorf("the spare room was written into: %+v", vars)
	}
	clear(vars)
	r := api.Record{Kind: api.EPublished, Key: 50, A: "m", Vars: []api.Var{num("c", 4)}}
	w.Emit(r)
	clear(r.Vars)
	told := w.Events()
	clear(told[0].Vars[:cap(told[0].Vars)])
	clear(told[:cap(told)])
	w.mustTell(t, "changed", nil, began(21, "line", num("a", 1), num("b", 2)), passed(21, 0, 0), entered(22, 21, 0, 1, 0), job(23, 22),
		api.Record{Kind: api.EPublished, Key: 50, A: "m", Vars: []api.Var{num("c", 4)}})
	spoil(w.State())
	if x := w.State().Insts; len(x) != 2 || !slices.Equal(x[1].Vars, []api.Var{num("a", 1), num("b", 2)}) {
		t.Errorf("%+v", x)
	}
}

// P15.1: two works of one state don't meet; a refused command leaves nothing behind
// that a later one would show.
func TestTwoWorks(t *testing.T) {
	s := open(t, line()).State()
	a, b := begin(s, 0, 9, 1), begin(s, 1, 9, 2)
	a.mustDo(t, "a", a.create("line", num("x", 1)), began(1, "line", num("x", 1)), passed(1, 0, 0), entered(2, 1, 0, 1, 0), job(3, 2))
	b.mustDo(t, "b", b.create("line"), began(1<<40+1, "line"), passed(1<<40+1, 0, 0), entered(1<<40+2, 1<<40+1, 0, 1, 0), job(1<<40+3, 1<<40+2))
	long := num("n", 1)
	long.Name = strings.Repeat("n", 33)
	a.mustRefuse(t, "a", a.create("line", long), api.ErrArg)
	a.mustDo(t, "a", a.complete(3), left(2), passed(1, 0, 2), ended(1))
	b.mustDo(t, "b", b.complete(1<<40+3), left(1<<40+2), passed(1<<40+1, 0, 2), ended(1<<40+1))
}

// P15.1: Emit sets Class, From and Time, whatever they are; the event stands behind
// the others, folded at the state's Pos and one more.
func TestEmit(t *testing.T) {
	w := begin(sample(), 0, 41, 7)
	var want []api.Record
	for i, r := range []api.Record{
		{Kind: api.EDone},
		{Class: api.Command, Kind: api.EStuck, From: 3, Time: 99, Key: 10, A: "job"},
		{Class: api.Refusal, Kind: api.EVars, From: math.MaxUint64, Time: -1, Key: 5, Vars: []api.Var{num("z", 9)}},
		{Class: 77, Kind: api.EEntered, Key: 11, Key2: 5, Key3: 10, N: 2, M: 3},
		{Class: api.Event, Kind: 99, Key: 1, Key2: 2, Key3: 3, N: 4, M: 5, A: strings.Repeat("a", 5000), B: "b", C: "c"},
		{Class: api.Event, Kind: api.ELeft, From: 2, Time: 3, Key: 10},
	} {
		w.Emit(r)
		want = append(want, r)
		w.mustTell(t, "emitted", nil, want...)
		if s := w.State(); s.Pos != uint64(41+i) || s.Done != 41 {
			t.Errorf("Pos %d, Done %d behind %d events", s.Pos, s.Done, i+1)
		}
	}
	if s := w.State(); s.Made != 21 || len(s.Tokens) != 1 || len(s.Jobs) != 0 || !slices.Equal(s.Insts[0].Vars, []api.Var{num("z", 9)}) {
		t.Errorf("%+v", s)
	}
	round := flow.Begin(api.State{Pos: math.MaxUint64}, 0, 1, 0)
	round.Emit(api.Record{Kind: api.EDone})
	if s := round.State(); s.Pos != 0 || s.Done != 1 {
		t.Errorf("%+v", s)
	}
}

// P15.1: Key is the partition's number times 2^40, and Made and 1; it changes with
// the events that make a key and with no other.
func TestKey(t *testing.T) {
	makes := []int{api.EBegan, api.EEntered, api.EJob, api.EPublished}
	for part, base := range map[int]uint64{0: 0, 1: 1 << 40, 3: 3 << 40, 1<<24 + 2: 2 << 40, -1: math.MaxUint64 - 1<<40 + 1} {
		for _, made := range []uint64{0, 1, 20, 1<<40 - 1, math.MaxUint64} {
			for kind := range 27 {
				w := flow.Begin(api.State{Made: made}, part, 1, 0)
				if key := w.Key(); key != base+made+1 {
					t.Errorf("partition %d, Made %d: %d", part, made, key)
				}
				w.Emit(api.Record{Kind: kind, Key: 5, Key2: 6, A: "a"})
				want := base + made + 1
				if slices.Contains(makes, kind) {
					want++
				}
				if key := w.Key(); key != want {
					t.Errorf("partition %d, Made %d, behind an event %d: %d, want %d", part, made, kind, key, want)
				}
			}
		}
	}
}

// P15.1: keys of one command, on a partition, are in one count.
func TestKeysOfAPartition(t *testing.T) {
	s := open(t, line()).State()
	s.Made = 7
	w := begin(s, 2, 9, 100)
	const k = 2 << 40
	w.mustDo(t, "created", w.create("line"), began(k+8, "line"), passed(k+8, 0, 0), entered(k+9, k+8, 0, 1, 0), job(k+10, k+9))
	if w.Key() != k+11 {
		t.Errorf("%d", w.Key())
	}
	w.mustDo(t, "cancelled", w.cancel(k+8), cancelled(k+8))
	if w.Key() != k+11 {
		t.Errorf("%d", w.Key())
	}
}
