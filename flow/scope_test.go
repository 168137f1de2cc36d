package flow_test

import (
	"slices"
	"testing"

	"wherry/api"
	"wherry/model"
)

// nested is a start 0, an NSub 1 with, in it, a start 3 and an NSub 4 with, in that, a
// start 6, a task 7 and an end 8; an end 5 in 1; the end 2; at the NSub 1 an NOnTime
// 9, which leads to the timer 10, and an NOnMsg 11 of go, key k, likewise; at the NSub
// 4 an NOnTime 12, which leads to 5.
func nested() api.Process {
	return process([]api.Node{
		0:  node(api.NStart, "s"),
		1:  node(api.NSub, "u"),
		2:  node(api.NEnd, "e"),
		3:  in(1, node(api.NStart, "us")),
		4:  in(1, node(api.NSub, "v")),
		5:  in(1, node(api.NEnd, "ue")),
		6:  in(4, node(api.NStart, "vs")),
		7:  in(4, node(api.NTask, "vt")),
		8:  in(4, node(api.NEnd, "ve")),
		9:  at(1, node(api.NOnTime, "late")),
		10: node(api.NTimer, "w"),
		11: at(1, keyed("go", "k", node(api.NOnMsg, "m"))),
		12: in(1, at(4, node(api.NOnTime, "vlate"))),
	}, by(0, 1), by(1, 2), by(3, 4), by(4, 5), by(6, 7), by(7, 8), by(9, 10), by(10, 2), by(11, 10), by(12, 5))
}

// inside is an instance 1 of nested: the tokens 2 at 1, 3 in it at 4, 4 in that at 7,
// with the job 5, at time 100.
func inside(t *testing.T) work {
	t.Helper()
	w := open(t, nested())
	k := text("k", "key")
	w.mustDo(t, "created", w.create("p", k), began(1, "p", k), passed(1, 0, 0),
		entered(2, 1, 0, 1, 0), timer(2, 9, 105), sub(2, 1, 11, "go", "key"), passed(1, 2, 3),
		entered(3, 1, 2, 4, 2), timer(3, 12, 105), passed(1, 3, 6),
		entered(4, 1, 3, 7, 4), job(5, 4))
	return begin(w.State(), 0, 10, 105)
}

// P15.2: scopes within scopes end, one by the other.
func TestScopesEnd(t *testing.T) {
	w := inside(t)
	w.mustDo(t, "completed", w.complete(5), left(4), passed(1, 3, 8), left(3), passed(1, 2, 5), left(2), passed(1, 0, 2), ended(1))
	if s := w.State(); len(s.Insts)+len(s.Tokens)+len(s.Jobs)+len(s.Timers)+len(s.Subs) != 0 {
		t.Errorf("%+v", s)
	}
}

// P15.2: what is below a token that is broken off leaves ahead of it, by falling keys;
// then its scope goes on from what broke it off.
func TestBrokenOff(t *testing.T) {
	w := inside(t)
	w.mustDo(t, "by a timer", w.timer(2, 9), left(4), left(3), left(2), passed(1, 0, 9), entered(6, 1, 0, 10, 6), timer(6, 10, 110))
	w = inside(t)
	w.mustDo(t, "by a message", w.arrive(2, 11, 77, num("a", 1)), kept(2, 77, 11), setVars(1, num("a", 1), text("k", "key")), left(4), left(3), left(2),
		passed(1, 0, 11), entered(6, 1, 0, 10, 8), timer(6, 10, 110))
	w = inside(t)
	w.mustDo(t, "within the other one", w.timer(3, 12), left(4), left(3), passed(1, 2, 12), passed(1, 2, 5), left(2), passed(1, 0, 2), ended(1))
}

// P15.2: keys that fall, be they in whichever order; tokens of other instances, and
// those that aren't below, stay.
func TestBelow(t *testing.T) {
	s := inside(t).State()
	s.Tokens = append(s.Tokens,
		api.Token{Key: 90, Inst: 1, Scope: 3, Node: 7, By: 4},
		api.Token{Key: 20, Inst: 1, Scope: 80, Node: 7, By: 4},
		api.Token{Key: 80, Inst: 1, Scope: 2, Node: 4, By: 2},
		api.Token{Key: 30, Inst: 7, Scope: 2, Node: 4, By: 2},
		api.Token{Key: 31, Inst: 1, Scope: 30, Node: 7, By: 2},
		api.Token{Key: 40, Inst: 1, Scope: 0, Node: 10, By: 2},
		api.Token{Key: 1, Inst: 1, Scope: 20, Node: 7, By: 2},
	)
	w := begin(s, 0, 10, 105)
	w.mustDo(t, "broken off", w.timer(2, 9), left(90), left(80), left(20), left(4), left(3), left(1), left(2), passed(1, 0, 9), entered(6, 1, 0, 10, 6), timer(6, 10, 110))
}

// P15.2: of a state in which tokens have one key, each token below leaves, one ELeft
// for each; one that isn't below stays out, be its key that of another one that is, or
// of the token that is taken off.
func TestBelowOfOneKey(t *testing.T) {
	four := api.Token{Key: 4, Inst: 1, Scope: 3, Node: 7, By: 4}
	with := func(change func(x *api.Token)) api.Token {
		x := four
		change(&x)
		return x
	}
	for what, x := range map[string]struct {
		more []api.Token
		left []uint64
	}{
		"once more":            {[]api.Token{four}, []uint64{4, 4, 3}},
		"twice more":           {[]api.Token{four, four}, []uint64{4, 4, 4, 3}},
		"in another scope":     {[]api.Token{with(func(x *api.Token) { x.Scope = 2 })}, []uint64{4, 4, 3}},
		"at another node":      {[]api.Token{with(func(x *api.Token) { x.Node = 4 })}, []uint64{4, 4, 3}},
		"not below":            {[]api.Token{with(func(x *api.Token) { x.Scope = 0 })}, []uint64{4, 3}},
		"in no scope":          {[]api.Token{with(func(x *api.Token) { x.Scope = 77 })}, []uint64{4, 3}},
		"of another instance":  {[]api.Token{with(func(x *api.Token) { x.Inst = 9 })}, []uint64{4, 3}},
		"below two of one key": {[]api.Token{four, {Key: 90, Inst: 1, Scope: 4, Node: 7}}, []uint64{90, 4, 4, 3}},
		"its own, below it":    {[]api.Token{{Key: 2, Inst: 1, Scope: 2, Node: 4}}, []uint64{4, 3, 2}},
		"its own, far below":   {[]api.Token{{Key: 2, Inst: 1, Scope: 3, Node: 4}}, []uint64{4, 3, 2}},
		"its own, not below":   {[]api.Token{{Key: 2, Inst: 1, Scope: 0, Node: 4}}, []uint64{4, 3}},
		"all":                  {[]api.Token{four, {Key: 3, Inst: 1, Scope: 2, Node: 4}, {Key: 3, Inst: 1, Node: 4}}, []uint64{4, 4, 3, 3}},
	} {
		s := inside(t).State()
		s.Tokens = append(s.Tokens, x.more...)
		s.Tokens[0].Stuck = "x"
		var off []api.Record
		for _, key := range append(x.left, 2) {
			off = append(off, left(key))
		}
		broken := func(node, by int64) []api.Record {
			return append(slices.Clone(off), passed(1, 0, node), entered(6, 1, 0, 10, by), timer(6, 10, 110))
		}
		w := begin(s, 0, 10, 105)
		w.mustDo(t, what+", by a timer", w.timer(2, 9), broken(9, 6)...)
		w = begin(s, 0, 10, 105)
		w.mustDo(t, what+", by a message", w.arrive(2, 11, 77), append([]api.Record{kept(2, 77, 11)}, broken(11, 8)...)...)
		w = begin(s, 0, 10, 105)
		k := text("k", "key")
		w.mustDo(t, what+", resolved", w.resolve(2, k), append(append([]api.Record{setVars(1, k)}, off...),
			entered(6, 1, 0, 1, 0), timer(6, 9, 110), sub(6, 1, 11, "go", "key"), passed(1, 6, 3),
			entered(7, 1, 6, 4, 2), timer(7, 12, 110), passed(1, 7, 6), entered(8, 1, 7, 7, 4), job(9, 8))...)
	}
}

// R1: scopes that go round, in a state that no command made, come to an end; each
// token leaves once.
func TestScopesThatGoRound(t *testing.T) {
	s := inside(t).State()
	s.Tokens = []api.Token{{Key: 2, Inst: 1, Scope: 4, Node: 1}, {Key: 3, Inst: 1, Scope: 2, Node: 4}, {Key: 4, Inst: 1, Scope: 3, Node: 7}}
	w := begin(s, 0, 10, 105)
	w.mustDo(t, "three", w.timer(2, 9), left(4), left(3), left(2), passed(1, 4, 9), entered(6, 1, 4, 10, 6), timer(6, 10, 110))
	s.Tokens = []api.Token{{Key: 2, Inst: 1, Scope: 2, Node: 1}, {Key: 3, Inst: 1, Scope: 4, Node: 4}, {Key: 4, Inst: 1, Scope: 3, Node: 7}}
	w = begin(s, 0, 10, 105)
	w.mustDo(t, "one", w.timer(2, 9), left(2), passed(1, 2, 9), entered(6, 1, 2, 10, 6), timer(6, 10, 110))
	w = begin(s, 0, 10, 105)
	w.mustDo(t, "a token that leaves its own scope", w.complete(5), left(4), passed(1, 3, 8), left(3), passed(1, 4, 5))
}

// P15.2: a scope in which somebody is goes on; of another instance, nobody counts.
func TestScopeGoesOn(t *testing.T) {
	s := inside(t).State()
	s.Tokens = append(s.Tokens, api.Token{Key: 50, Inst: 1, Scope: 2, Node: 4, By: 2}, api.Token{Key: 60, Inst: 9, Scope: 3, Node: 7, By: 4})
	w := begin(s, 0, 10, 105)
	w.mustDo(t, "completed", w.complete(5), left(4), passed(1, 3, 8), left(3), passed(1, 2, 5))
	two := begin(s, 0, 10, 105)
	two.mustDo(t, "another one there", two.timer(3, 12), left(4), left(3), passed(1, 2, 12), passed(1, 2, 5))
}

// P15.2: a scope whose token isn't there any more ends in nothing; one whose token is
// at no node of the process ends with it.
func TestScopeWithoutAToken(t *testing.T) {
	s := inside(t).State()
	s.Tokens = s.Tokens[2:]
	w := begin(s, 0, 10, 105)
	w.mustDo(t, "no token", w.complete(5), left(4), passed(1, 3, 8))
	for _, n := range []int{-1, 13, 1 << 40, -1 << 40} {
		s = inside(t).State()
		s.Tokens[1].Node = n
		w = begin(s, 0, 10, 105)
		w.mustDo(t, "a node that is none", w.complete(5), left(4), passed(1, 3, 8), left(3))
	}
}

// P15.2: a stuck token that is resolved leaves with all that is below it, and its
// node is entered by the flow that it came by, in its scope.
func TestResolve(t *testing.T) {
	w := inside(t)
	s := w.State()
	s.Tokens[0].Stuck = "key"
	w = begin(s, 0, 10, 105)
	k := text("k", "new")
	w.mustDo(t, "at an NSub", w.resolve(2, k), setVars(1, k), left(4), left(3), left(2),
		entered(6, 1, 0, 1, 0), timer(6, 9, 110), sub(6, 1, 11, "go", "new"), passed(1, 6, 3),
		entered(7, 1, 6, 4, 2), timer(7, 12, 110), passed(1, 7, 6), entered(8, 1, 7, 7, 4), job(9, 8))
	s = inside(t).State()
	s.Tokens[2].Stuck = "job"
	w = begin(s, 0, 10, 105)
	w.mustDo(t, "at a task", w.resolve(4), left(4), entered(6, 1, 3, 7, 4), job(7, 6))
	s.Tokens[2].By = -7
	w = begin(s, 0, 10, 105)
	w.mustDo(t, "by whichever flow", w.resolve(4), left(4), entered(6, 1, 3, 7, -7), job(7, 6))
}

// P15.2: what a token of its own node waited for makes it leave alone, not what is
// below it; any other node breaks it off, even one that doesn't sit there.
func TestOwnNodeAndOthers(t *testing.T) {
	s := inside(t).State()
	s.Timers = append(s.Timers, api.Timer{Token: 2, Node: 1, When: 105}, api.Timer{Token: 2, Node: 2, When: 105}, api.Timer{Token: 4, Node: 10, When: 0})
	s.Subs = append(s.Subs, api.Sub{Token: 2, Node: 1}, api.Sub{Token: 2, Node: 0})
	w := begin(s, 0, 10, 105)
	w.mustDo(t, "its own, by a timer", w.timer(2, 1), left(2), passed(1, 0, 2), ended(1))
	w = begin(s, 0, 10, 105)
	w.mustDo(t, "its own, by a message", w.arrive(2, 1, 5), kept(2, 5, 1), left(2), passed(1, 0, 2), ended(1))
	w = begin(s, 0, 10, 105)
	w.mustDo(t, "an end", w.timer(2, 2), left(4), left(3), left(2), passed(1, 0, 2))
	w = begin(s, 0, 10, 105)
	w.mustDo(t, "a start", w.arrive(2, 0, 5), kept(2, 5, 0), left(4), left(3), left(2), passed(1, 0, 0),
		entered(6, 1, 0, 1, 0), timer(6, 9, 110), sub(6, 1, 11, "go", "key"), passed(1, 6, 3),
		entered(7, 1, 6, 4, 2), timer(7, 12, 110), passed(1, 7, 6), entered(8, 1, 7, 7, 4), job(9, 8))
	w = begin(s, 0, 10, 105)
	w.mustDo(t, "one of another scope", w.timer(4, 10), left(4), passed(1, 3, 10), passed(1, 3, 2), left(3), passed(1, 2, 5), left(2), passed(1, 0, 2), ended(1))
}

// P15.2: what an NCatch waited for, with variables and without them.
func TestArrive(t *testing.T) {
	k := text("k", "v")
	for what, vars := range map[string][]api.Var{"without variables": nil, "with an empty list": {}, "with some": {num("a", 1), num("z", 2)}} {
		w := open(t, through(node(api.NCatch, "c")))
		w.mustDo(t, what, w.create("p", k), began(1, "p", k), passed(1, 0, 0), entered(2, 1, 0, 1, 0), sub(2, 1, 1, "paid", "v"))
		want := []api.Record{kept(2, 1<<63, 1)}
		if len(vars) > 0 {
			want = append(want, setVars(1, num("a", 1), k, num("z", 2)))
		}
		w.mustDo(t, what, w.arrive(2, 1, 1<<63, vars...), append(want, left(2), passed(1, 0, 2), ended(1))...)
		if l := w.State().Kept; len(l) != 1 || l[0] != (api.Kept{Token: 2, Message: 1 << 63, Node: 1}) {
			t.Errorf("%s: %+v", what, l)
		}
	}
}

// P15.2: timers at their time and behind it; not ahead of it.
func TestTimerTimes(t *testing.T) {
	s := inside(t).State()
	for now, want := range map[int64]api.Errno{0: api.ErrState, 104: api.ErrState, 105: api.OK, 106: api.OK, 1 << 40: api.OK} {
		for _, x := range []struct {
			token uint64
			node  int
		}{{2, 9}, {3, 12}} {
			w := begin(s, 0, 10, now)
			if want != api.OK {
				w.mustRefuse(t, "ahead of its time", w.timer(x.token, x.node), want)
			} else if err := w.Timer(x.token, x.node); err != want {
				t.Errorf("at %d: %d", now, err)
			}
		}
	}
}

// P15.2: a cancelled instance leaves nothing but the processes and the others.
func TestCancel(t *testing.T) {
	w := inside(t)
	w.mustDo(t, "another one", w.create("p", text("k", "2")), began(6, "p", text("k", "2")), passed(6, 0, 0),
		entered(7, 6, 0, 1, 0), timer(7, 9, 110), sub(7, 6, 11, "go", "2"), passed(6, 7, 3),
		entered(8, 6, 7, 4, 2), timer(8, 12, 110), passed(6, 8, 6), entered(9, 6, 8, 7, 4), job(10, 9))
	w.mustDo(t, "cancelled", w.cancel(1), cancelled(1))
	w.mustRefuse(t, "again", w.cancel(1), api.ErrNone)
	w.mustRefuse(t, "a token", w.cancel(7), api.ErrNone)
	w.mustRefuse(t, "none", w.cancel(0), api.ErrNone)
	w.mustDo(t, "the other one goes on", w.complete(10), left(9), passed(6, 8, 8), left(8), passed(6, 7, 5), left(7), passed(6, 0, 2), ended(6))
	bare := begin(api.State{Insts: []api.Instance{{Key: 0, Id: "none"}}}, 0, 1, 0)
	bare.mustDo(t, "without a process", bare.cancel(0), cancelled(0))
}

// P15.2: processes are deployed again, while no instance of theirs runs.
func TestDeploy(t *testing.T) {
	w := begin(api.State{}, 0, 1, 0)
	w.mustDo(t, "line", w.deploy(line()), deployed(line()))
	w.mustDo(t, "again", w.deploy(line()), deployed(line()))
	w.mustDo(t, "another one", w.deploy(split()), deployed(split()))
	w.mustDo(t, "created", w.create("line"), began(1, "line"), passed(1, 0, 0), entered(2, 1, 0, 1, 0), job(3, 2))
	w.mustRefuse(t, "while it runs", w.deploy(line()), api.ErrState)
	w.mustDo(t, "another one, while it runs", w.deploy(split()), deployed(split()))
	w.mustDo(t, "cancelled", w.cancel(1), cancelled(1))
	next := line()
	next.Nodes[1].Type = "ship"
	w.mustDo(t, "another form of it", w.deploy(next), deployed(next))
	w.mustDo(t, "created", w.create("line"), began(4, "line"), passed(4, 0, 0), entered(5, 4, 0, 1, 0), api.Record{Kind: api.EJob, Key: 6, Key2: 5, A: "ship", N: 3})
	if l := w.State().Procs; len(l) != 2 || l[0].Bytes != model.Bytes(next) {
		t.Errorf("%+v", l)
	}
}
