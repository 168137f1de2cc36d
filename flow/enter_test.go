package flow_test

import (
	"fmt"
	"strings"
	"testing"

	"wherry/api"
	"wherry/model"
)

// P15.2: a start and an end are passed.
func TestStartAndEnd(t *testing.T) {
	w := open(t, process([]api.Node{node(api.NStart, "s"), node(api.NEnd, "e")}, by(0, 1)))
	w.mustDo(t, "created", w.create("p", num("a", 1)), began(1, "p", num("a", 1)), passed(1, 0, 0), passed(1, 0, 1), ended(1))
	behind := open(t, process([]api.Node{node(api.NEnd, "e"), node(api.NTask, "t"), node(api.NStart, "s")}, by(1, 0), by(2, 1)))
	behind.mustDo(t, "a start that isn't the first", behind.create("p"), began(1, "p"), passed(1, 0, 2), entered(2, 1, 0, 1, 1), job(3, 2))
}

// P15.2: a task has a job of its type, with its retries.
func TestTask(t *testing.T) {
	n := node(api.NTask, "t")
	n.Type, n.N = "ship", 9
	w := open(t, through(n))
	w.mustDo(t, "created", w.create("p"), began(1, "p"), passed(1, 0, 0), entered(2, 1, 0, 1, 0),
		api.Record{Kind: api.EJob, Key: 3, Key2: 2, A: "ship", N: 9})
	w.mustDo(t, "completed", w.complete(3), left(2), passed(1, 0, 2), ended(1))
}

// P15.2: a timer is set at the time and its N.
func TestTimerNode(t *testing.T) {
	n := node(api.NTimer, "w")
	n.N = 1 << 20
	w := open(t, through(n))
	w.mustDo(t, "created", w.create("p"), began(1, "p"), passed(1, 0, 0), entered(2, 1, 0, 1, 0), timer(2, 1, 100+1<<20))
	late := begin(w.State(), 0, 10, 100+1<<20)
	late.mustDo(t, "its time", late.timer(2, 1), left(2), passed(1, 0, 2), ended(1))
}

// P15.2: a message's key is a Text, or what Show says of an Int or a Bool; an error
// sticks.
func TestMessageKeys(t *testing.T) {
	for _, x := range []struct {
		key  string
		vars []api.Var
		want string
	}{
		{"k", []api.Var{text("k", "abc")}, "abc"},
		{"k", []api.Var{text("k", "")}, ""},
		{"k", []api.Var{text("k", "a\"\\\x00\xff")}, "a\"\\\x00\xff"},
		{"k", []api.Var{num("k", 0)}, "0"},
		{"k", []api.Var{num("k", -1<<63)}, "-9223372036854775808"},
		{"k", []api.Var{truth("k", 1)}, "true"},
		{"k", []api.Var{truth("k", 0)}, "false"},
		{"1 + 2", nil, "3"},
		{`"x" + k`, []api.Var{text("k", "y")}, "xy"},
		{"a < 2", []api.Var{num("a", 1)}, "true"},
		{"k", []api.Var{text("k", strings.Repeat("k", 1024))}, strings.Repeat("k", 1024)},
		{`k + ""`, []api.Var{text("k", strings.Repeat("k", 1024))}, strings.Repeat("k", 1024)},
		{`k + k`, []api.Var{text("k", strings.Repeat("k", 512))}, strings.Repeat("k", 1024)},
	} {
		w := open(t, through(keyed("paid", x.key, node(api.NCatch, "c"))))
		w.mustDo(t, x.key, w.create("p", x.vars...), began(1, "p", x.vars...), passed(1, 0, 0), entered(2, 1, 0, 1, 0), sub(2, 1, 1, "paid", x.want))
	}
	for _, x := range []struct {
		what, key string
		vars      []api.Var
	}{
		{"no such variable", "k", nil},
		{"a wrong type", "k + 1", []api.Var{text("k", "a")}},
		{"a division by 0", "1 / 0", nil},
		{"1025 bytes", `k + "k"`, []api.Var{text("k", strings.Repeat("k", 1024))}},
	} {
		w := open(t, through(keyed("paid", x.key, node(api.NCatch, "c"))))
		w.mustDo(t, x.what, w.create("p", x.vars...), began(1, "p", x.vars...), passed(1, 0, 0), entered(2, 1, 0, 1, 0), stuck(2, "key"))
	}
}

// P15.2: what sits at nodes that wait is set ahead of what they wait for, rising,
// each with what it has.
func TestWhatSits(t *testing.T) {
	sits := func(n api.Node, more ...api.Node) api.Process {
		early, late := at(1, node(api.NOnTime, "b3")), at(1, node(api.NOnTime, "b5"))
		early.N, late.N = 1, 7
		p := through(n, early, at(1, keyed("ma", `"x"`, node(api.NOnMsg, "b4"))), late, at(1, keyed("mb", "7", node(api.NOnMsg, "b6"))))
		p.Nodes = append(p.Nodes, more...)
		return with(p, by(3, 2), by(4, 2), by(5, 2), by(6, 2))
	}
	set := []api.Record{began(1, "p"), passed(1, 0, 0), entered(2, 1, 0, 1, 0), timer(2, 3, 101), sub(2, 1, 4, "ma", "x"), timer(2, 5, 107), sub(2, 1, 6, "mb", "7")}
	for what, x := range map[string]struct {
		p    api.Process
		want []api.Record
	}{
		"NTask":  {sits(node(api.NTask, "t")), []api.Record{job(3, 2)}},
		"NCatch": {sits(keyed("paid", "true", node(api.NCatch, "c"))), []api.Record{sub(2, 1, 1, "paid", "true")}},
		"NTimer": {sits(node(api.NTimer, "w")), []api.Record{timer(2, 1, 105)}},
		"NSub": {with(sits(node(api.NSub, "u"), in(1, node(api.NStart, "us")), in(1, node(api.NTask, "ut")), in(1, node(api.NEnd, "ue"))), by(7, 8), by(8, 9)),
			[]api.Record{passed(1, 2, 7), entered(3, 1, 2, 8, 6), job(4, 3)}},
	} {
		w := open(t, x.p)
		w.mustDo(t, what, w.create("p"), append(append([]api.Record{}, set...), x.want...)...)
	}
}

// P15.2: a message that can't be set sticks the token, and no more: what is behind
// it is set all the same.
func TestStuckKeyGoesOn(t *testing.T) {
	p := with(through(node(api.NTask, "t"), at(1, keyed("ma", "no", node(api.NOnMsg, "b3"))), at(1, node(api.NOnTime, "b4")), at(1, keyed("mb", "1 / 0", node(api.NOnMsg, "b5")))),
		by(3, 2), by(4, 2), by(5, 2))
	w := open(t, p)
	w.mustDo(t, "a task", w.create("p"), began(1, "p"), passed(1, 0, 0), entered(2, 1, 0, 1, 0), stuck(2, "key"), timer(2, 4, 105), stuck(2, "key"), job(3, 2))
	w.mustDo(t, "completed, though it is stuck", w.complete(3), left(2), passed(1, 0, 2), ended(1))
	u := with(through(node(api.NSub, "u"), at(1, node(api.NOnMsg, "b3")), in(1, node(api.NStart, "us")), in(1, node(api.NEnd, "ue"))), by(3, 2), by(4, 5))
	w = open(t, u)
	w.mustDo(t, "a scope that ends", w.create("p"), began(1, "p"), passed(1, 0, 0), entered(2, 1, 0, 1, 0), stuck(2, "key"),
		passed(1, 2, 4), passed(1, 2, 5), left(2), passed(1, 0, 2), ended(1))
	c := with(through(node(api.NCatch, "c"), at(1, keyed("ma", "no", node(api.NOnMsg, "b3")))), by(3, 2))
	w = open(t, c)
	w.mustDo(t, "both messages", w.create("p"), began(1, "p"), passed(1, 0, 0), entered(2, 1, 0, 1, 0), stuck(2, "key"), stuck(2, "key"))
}

// choice is a start 0, an NXor 1, tasks 2, 3, 4 and ends behind them; the flows 1, 2,
// 3 go to the tasks.
func choice(conds ...string) api.Process {
	p := process([]api.Node{node(api.NStart, "s"), node(api.NXor, "x")}, by(0, 1))
	for i, c := range conds {
		p.Nodes = append(p.Nodes, node(api.NTask, fmt.Sprintf("t%d", i)))
		p.Flows = append(p.Flows, when(1, 2+i, c))
	}
	p.Nodes = append(p.Nodes, node(api.NEnd, "e"))
	for i := range conds {
		p.Flows = append(p.Flows, by(2+i, len(p.Nodes)-1))
	}
	return p
}

// P15.2: of the ways out of an NXor the first one that is true is taken, else the one
// without a condition; it sticks at an error ahead of that, and where none is open.
func TestXor(t *testing.T) {
	for _, x := range []struct {
		what  string
		conds []string
		want  int
		why   string
	}{
		{"one that is true", []string{"true"}, 1, ""},
		{"the second", []string{"a > 5", "a == 5"}, 2, ""},
		{"the first of several", []string{"false", "a == 5", "true"}, 2, ""},
		{"the one without", []string{"false", ""}, 2, ""},
		{"the one without, ahead of those that aren't true", []string{"", "false", "a < 5"}, 1, ""},
		{"one that is true behind the one without", []string{"", "false", "a == 5"}, 3, ""},
		{"the one without alone", []string{""}, 1, ""},
		{"an error behind one that is true", []string{"true", "no", "1"}, 1, ""},
		{"a variable that there isn't", []string{"no", "true", ""}, 0, "cond"},
		{"an error behind one that isn't true", []string{"false", "1 / 0 == 1", "true"}, 0, "cond"},
		{"an error, and the one without ahead", []string{"", "a + true"}, 0, "cond"},
		{"an Int", []string{"1", "true"}, 0, "cond"},
		{"a Text", []string{`"true"`, ""}, 0, "cond"},
		{"an Int 1 of a variable", []string{"a", ""}, 0, "cond"},
		{"a variable", []string{"b", "c"}, 2, ""},
		{"none", []string{"false", "a > 5"}, 0, "way"},
		{"none, of one", []string{"not true"}, 0, "way"},
	} {
		w := open(t, choice(x.conds...))
		vars := []api.Var{num("a", 5), truth("b", 0), truth("c", 1)}
		want := []api.Record{began(1, "p", vars...), passed(1, 0, 0)}
		if x.why == "" {
			want = append(want, passed(1, 0, 1), entered(2, 1, 0, int64(1+x.want), int64(x.want)), job(3, 2))
		} else {
			want = append(want, entered(2, 1, 0, 1, 0), stuck(2, x.why))
		}
		w.mustDo(t, x.what, w.create("p", vars...), want...)
	}
}

// P15.2: conditions are reckoned with the variables that the instance has by then.
func TestXorBehindVars(t *testing.T) {
	p := process([]api.Node{node(api.NStart, "s"), node(api.NTask, "t"), node(api.NXor, "x"), node(api.NEnd, "e"), node(api.NTimer, "w")},
		by(0, 1), by(1, 2), when(2, 3, "ok"), by(2, 4), by(4, 3))
	w := open(t, p)
	w.mustDo(t, "created", w.create("p", truth("ok", 0)), began(1, "p", truth("ok", 0)), passed(1, 0, 0), entered(2, 1, 0, 1, 0), job(3, 2))
	other := begin(w.State(), 0, 10, 101)
	w.mustDo(t, "with another value", w.complete(3, truth("ok", 1)), setVars(1, truth("ok", 1)), left(2), passed(1, 0, 2), passed(1, 0, 3), ended(1))
	other.mustDo(t, "with the old one", other.complete(3), left(2), passed(1, 0, 2), entered(4, 1, 0, 4, 3), timer(4, 4, 106))
}

// split is a start 0, an NAnd 1 to the tasks 2 and 3, which go into the NAnd 4 by the
// flows 3 and 4, and an end 5.
func split() api.Process {
	return process([]api.Node{node(api.NStart, "s"), node(api.NAnd, "a"), node(api.NTask, "t"), node(api.NTask, "u"), node(api.NAnd, "z"), node(api.NEnd, "e")},
		by(0, 1), by(1, 2), by(1, 3), by(2, 4), by(3, 4), by(4, 5))
}

// P15.2: an NAnd of one flow in is gone through; all its ways are taken, rising; one
// of two waits for the other.
func TestAnd(t *testing.T) {
	w := open(t, split())
	w.mustDo(t, "created", w.create("p"), began(1, "p"), passed(1, 0, 0), entered(2, 1, 0, 1, 0), left(2), passed(1, 0, 1),
		entered(3, 1, 0, 2, 1), job(4, 3), entered(5, 1, 0, 3, 2), job(6, 5))
	other := begin(w.State(), 0, 10, 101)
	w.mustDo(t, "one of them", w.complete(4), left(3), entered(7, 1, 0, 4, 3))
	w.mustDo(t, "both", w.complete(6), left(5), entered(8, 1, 0, 4, 4), left(7), left(8), passed(1, 0, 4), passed(1, 0, 5), ended(1))
	other.mustDo(t, "the other one", other.complete(6), left(5), entered(7, 1, 0, 4, 4))
	other.mustDo(t, "both, by flows", other.complete(4), left(3), entered(8, 1, 0, 4, 3), left(8), left(7), passed(1, 0, 4), passed(1, 0, 5), ended(1))
}

// P15.2: two tokens by one flow don't do for an NAnd; then of those by a flow the
// one of least key is taken, and the other one waits on.
func TestAndWithTwoByOneFlow(t *testing.T) {
	w := open(t, split())
	w.mustDo(t, "created", w.create("p"), began(1, "p"), passed(1, 0, 0), entered(2, 1, 0, 1, 0), left(2), passed(1, 0, 1),
		entered(3, 1, 0, 2, 1), job(4, 3), entered(5, 1, 0, 3, 2), job(6, 5))
	s := w.State()
	s.Tokens = append([]api.Token{{Key: 900, Inst: 1, Node: 4, By: 3}}, s.Tokens...)
	s.Tokens = append(s.Tokens, api.Token{Key: 800, Inst: 1, Node: 4, By: 3})
	w = begin(s, 0, 10, 101)
	w.mustDo(t, "a third by that flow", w.complete(4), left(3), entered(7, 1, 0, 4, 3))
	w.mustDo(t, "one by the other", w.complete(6), left(5), entered(8, 1, 0, 4, 4), left(7), left(8), passed(1, 0, 4), passed(1, 0, 5))
	s = w.State()
	s.Tokens = append(s.Tokens, api.Token{Key: 700, Inst: 1, Node: 3, By: 2})
	s.Jobs = []api.Job{{Key: 20, Token: 700}}
	w = begin(s, 0, 11, 102)
	w.mustDo(t, "another one by the other", w.complete(20), left(700), entered(9, 1, 0, 4, 4), left(800), left(9), passed(1, 0, 4), passed(1, 0, 5))
}

// P15.2: tokens of other instances, scopes, nodes and flows don't do for an NAnd;
// one that is stuck does.
func TestAndWithOthers(t *testing.T) {
	whole := open(t, split()).State()
	whole.Made = 50
	whole.Insts = []api.Instance{{Key: 1, Id: "p"}}
	whole.Tokens = []api.Token{{Key: 3, Inst: 1, Scope: 9, Node: 2, By: 1}}
	whole.Jobs = []api.Job{{Key: 4, Token: 3, Type: "pay"}}
	for what, x := range map[string]struct {
		t    api.Token
		does bool
	}{
		"of another instance": {api.Token{Key: 6, Inst: 2, Scope: 9, Node: 4, By: 4}, false},
		"in another scope":    {api.Token{Key: 6, Inst: 1, Scope: 0, Node: 4, By: 4}, false},
		"at another node":     {api.Token{Key: 6, Inst: 1, Scope: 9, Node: 1, By: 4}, false},
		"by another flow":     {api.Token{Key: 6, Inst: 1, Scope: 9, Node: 4, By: 2}, false},
		"by none":             {api.Token{Key: 6, Inst: 1, Scope: 9, Node: 4, By: -1}, false},
		"by it":               {api.Token{Key: 6, Inst: 1, Scope: 9, Node: 4, By: 4}, true},
		"by it, but stuck":    {api.Token{Key: 6, Inst: 1, Scope: 9, Node: 4, By: 4, Stuck: "loop"}, true},
	} {
		s := whole
		s.Tokens = append([]api.Token{}, append(s.Tokens, x.t)...)
		w := begin(s, 0, 9, 100)
		want := []api.Record{left(3), entered(51, 1, 9, 4, 3)}
		if x.does {
			want = append(want, left(51), left(6), passed(1, 9, 4), passed(1, 9, 5))
		}
		w.mustDo(t, what, w.complete(4), want...)
	}
}

// P15.2: all that an NAnd leads to is entered one behind the other: an end that is
// reached ahead of the rest looks at a scope in which nobody is yet.
func TestAndToAnEndFirst(t *testing.T) {
	p := process([]api.Node{node(api.NStart, "s"), node(api.NAnd, "a"), node(api.NEnd, "e"), node(api.NTask, "t")}, by(0, 1), by(1, 2), by(1, 3), by(3, 2))
	w := open(t, p)
	w.mustDo(t, "the end first", w.create("p"), began(1, "p"), passed(1, 0, 0), entered(2, 1, 0, 1, 0), left(2), passed(1, 0, 1),
		passed(1, 0, 2), ended(1), entered(3, 1, 0, 3, 2), job(4, 3))
	w.mustRefuse(t, "without an instance", w.complete(4), api.ErrNone)
	p.Flows[1], p.Flows[2] = p.Flows[2], p.Flows[1]
	w = open(t, p)
	w.mustDo(t, "the task first", w.create("p"), began(1, "p"), passed(1, 0, 0), entered(2, 1, 0, 1, 0), left(2), passed(1, 0, 1),
		entered(3, 1, 0, 3, 1), job(4, 3), passed(1, 0, 2))
	w.mustDo(t, "completed", w.complete(4), left(3), passed(1, 0, 2), ended(1))
}

// row is a start, so many NXor, and a task, one behind the other, and an end.
func row(n int) api.Process {
	p := process([]api.Node{node(api.NStart, "s")})
	for i := range n {
		p.Nodes = append(p.Nodes, node(api.NXor, fmt.Sprintf("x%d", i)))
	}
	p.Nodes = append(p.Nodes, node(api.NTask, "t"), node(api.NEnd, "e"))
	for i := range n + 2 {
		p.Flows = append(p.Flows, by(i, i+1))
	}
	return p
}

// P15.2, P15.3: of a command 40 nodes are entered; the token gets stuck at the next
// one, whatever that is. Another command begins with no steps.
func TestSteps(t *testing.T) {
	w := open(t, row(37)) // 40 nodes: with the task 39 of them are entered.
	want := []api.Record{began(1, "p")}
	for i := range int64(38) {
		want = append(want, passed(1, 0, i))
	}
	w.mustDo(t, "39 steps", w.create("p"), append(want, entered(2, 1, 0, 38, 37), job(3, 2))...)
	w.mustDo(t, "one more command", w.complete(3), left(2), passed(1, 0, 39), ended(1))

	// Round and round: 1 to 2 and back.
	loop := process([]api.Node{node(api.NStart, "s"), node(api.NXor, "x"), node(api.NXor, "y"), node(api.NEnd, "e")},
		by(0, 1), by(1, 2), by(2, 1), when(2, 3, "out"))
	w = open(t, loop)
	want = []api.Record{began(1, "p", truth("out", 0)), passed(1, 0, 0)}
	for i := range int64(39) {
		want = append(want, passed(1, 0, 1+i%2))
	}
	w.mustDo(t, "40 steps and one", w.create("p", truth("out", 0)), append(want, entered(2, 1, 0, 2, 1), stuck(2, "loop"))...)
	want = []api.Record{left(2)}
	for i := range int64(40) {
		want = append(want, passed(1, 0, 2-i%2))
	}
	w.mustDo(t, "again", w.resolve(2), append(want, entered(3, 1, 0, 2, 1), stuck(3, "loop"))...)
	w.mustDo(t, "out of it", w.resolve(3, truth("out", 1)), setVars(1, truth("out", 1)), left(3), passed(1, 0, 2), passed(1, 0, 3), ended(1))
}

// behind is a process in which the node 4, of that kind, is entered behind that many
// steps, by the flow that is told: a start 0, an NAnd 1 that leads to a task 2, often
// to the end 3, and then to the node 4.
func behind(steps, kind int) (p api.Process, flow int64) {
	p = process([]api.Node{node(api.NStart, "s"), node(api.NAnd, "a"), node(api.NTask, "t"), node(api.NEnd, "e"), node(kind, "n")}, by(0, 1), by(1, 2))
	for range steps - 3 {
		p.Flows = append(p.Flows, by(1, 3))
	}
	flow = int64(len(p.Flows))
	p.Flows = append(p.Flows, by(1, 4), by(2, 3))
	if kind != api.NEnd {
		p.Flows = append(p.Flows, by(4, 3))
	}
	if kind == api.NSub {
		p.Nodes = append(p.Nodes, in(4, node(api.NStart, "is")), in(4, node(api.NEnd, "ie")))
		p.Flows = append(p.Flows, by(5, 6))
	}
	return p, flow
}

// P15.2, P15.3: the step at MaxSteps is done, and the one behind it is stuck, of each
// kind of node.
func TestTheLastStep(t *testing.T) {
	k := text("k", "v")
	for _, kind := range []int{api.NEnd, api.NTask, api.NXor, api.NAnd, api.NCatch, api.NTimer, api.NSub} {
		for _, steps := range []int{39, 40} {
			p, f := behind(steps, kind)
			want := []api.Record{began(1, "p", k), passed(1, 0, 0), entered(2, 1, 0, 1, 0), left(2), passed(1, 0, 1), entered(3, 1, 0, 2, 1), job(4, 3)}
			for range steps - 3 {
				want = append(want, passed(1, 0, 3))
			}
			last := map[int][]api.Record{
				api.NEnd:   {passed(1, 0, 4)},
				api.NTask:  {entered(5, 1, 0, 4, f), job(6, 5)},
				api.NXor:   {passed(1, 0, 4), entered(5, 1, 0, 3, f+2), stuck(5, "loop")},
				api.NAnd:   {entered(5, 1, 0, 4, f), left(5), passed(1, 0, 4), entered(6, 1, 0, 3, f+2), stuck(6, "loop")},
				api.NCatch: {entered(5, 1, 0, 4, f), sub(5, 1, 4, "paid", "v")},
				api.NTimer: {entered(5, 1, 0, 4, f), timer(5, 4, 105)},
				api.NSub:   {entered(5, 1, 0, 4, f), entered(6, 1, 5, 5, -1), stuck(6, "loop")},
			}[kind]
			if steps == 40 {
				last = []api.Record{entered(5, 1, 0, 4, f), stuck(5, "loop")}
			}
			w := open(t, p)
			w.mustDo(t, fmt.Sprintf("kind %d behind %d steps", kind, steps), w.create("p", k), append(want, last...)...)
		}
	}
}

// P15.2: behind the last step every way that is left is a token that is stuck.
func TestLoopOnAllWays(t *testing.T) {
	p := process([]api.Node{node(api.NStart, "s"), node(api.NXor, "x"), node(api.NAnd, "a"), node(api.NTimer, "w"), node(api.NEnd, "e")},
		by(0, 1), by(1, 2), by(2, 1), by(2, 3), by(3, 4))
	w := open(t, p)
	// The start, then NXor and NAnd in turn: the 40th step is an NXor, whose way to
	// the NAnd is stuck; then the other way of each of the 19 NAnd is.
	want := []api.Record{began(1, "p"), passed(1, 0, 0), passed(1, 0, 1)}
	for i := range uint64(19) {
		want = append(want, entered(2+i, 1, 0, 2, 1), left(2+i), passed(1, 0, 2), passed(1, 0, 1))
	}
	want = append(want, entered(21, 1, 0, 2, 1), stuck(21, "loop"))
	for i := range uint64(19) {
		want = append(want, entered(22+i, 1, 0, 3, 3), stuck(22+i, "loop"))
	}
	w.mustDo(t, "created", w.create("p"), want...)
	w.mustDo(t, "one of them", w.resolve(30), left(30), entered(41, 1, 0, 3, 3), timer(41, 3, 105))
}

// P15.2: nodes that sit at others are entered by Resolve alone, of a state that no
// command made: there is nothing but the step.
func TestEnterWhatSits(t *testing.T) {
	p := with(through(node(api.NTask, "t"), at(1, node(api.NOnMsg, "m")), at(1, node(api.NOnTime, "l"))), by(3, 2), by(4, 2))
	for _, n := range []int{3, 4} {
		s := api.State{Made: 9, Procs: []api.Deployed{{Id: "p", Bytes: model.Bytes(p)}}, Insts: []api.Instance{{Key: 1, Id: "p"}},
			Tokens: []api.Token{{Key: 2, Inst: 1, Node: n, By: 7, Stuck: "key"}}}
		w := begin(s, 0, 9, 100)
		w.mustDo(t, "resolved", w.resolve(2), left(2))
		w = begin(s, 0, 9, 100)
		w.mustDo(t, "resolved with variables", w.resolve(2, num("a", 1)), setVars(1, num("a", 1)), left(2))
	}
}
