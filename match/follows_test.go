package match_test

import (
	"math/rand"
	"slices"
	"testing"

	"wherry/api"
	"wherry/flow"
	"wherry/fold"
	"wherry/match"
	"wherry/model"
)

// pair is a process whose instances wait at two places at once, for the same message,
// and a third one later: a start, an NAnd, catches c and d of paid with the key s, a
// task t at which an NOnMsg o of paid sits, an end.
func pair() api.Process {
	return api.Process{Id: "q", Nodes: []api.Node{
		{Kind: api.NStart, Parent: -1, Host: -1, Name: "s"},
		{Kind: api.NAnd, Parent: -1, Host: -1, Name: "a"},
		{Kind: api.NCatch, Parent: -1, Host: -1, Name: "c", Type: "paid", Key: "s"},
		{Kind: api.NCatch, Parent: -1, Host: -1, Name: "d", Type: "paid", Key: "s"},
		{Kind: api.NTask, Parent: -1, Host: -1, Name: "t", Type: "pack", N: 3},
		{Kind: api.NOnMsg, Parent: -1, Host: 4, Name: "o", Type: "paid", Key: "s"},
		{Kind: api.NEnd, Parent: -1, Host: -1, Name: "e"},
	}, Flows: []api.Flow{{From: 0, To: 1}, {From: 1, To: 2}, {From: 1, To: 3}, {From: 2, To: 4}, {From: 3, To: 4}, {From: 4, To: 6}, {From: 5, To: 6}}}
}

// place is a token and a node; way is a message's to one.
type place struct {
	token uint64
	node  int64
}
type way struct {
	message uint64
	to      place
}

// world is some partitions and the commands on their way between them, which are late,
// lost and doubled; and all that was told.
type world struct {
	t      *testing.T
	states []api.State
	pos    []uint64
	now    []int64
	box    []api.Send

	messages map[uint64]api.Record // as they were published
	subs     map[place]api.Record  // as they were told
	sent     map[way]bool
	places   map[place]uint64   // the message that came there
	insts    map[[2]uint64]bool // a message and an instance that it came to
	counts   map[int]int        // how many events there were of each kind
	done     map[api.Errno]int  // what was answered
}

func newWorld(t *testing.T, parts int) *world {
	x := &world{
		t: t, states: make([]api.State, parts), pos: make([]uint64, parts), now: make([]int64, parts),
		messages: map[uint64]api.Record{}, subs: map[place]api.Record{}, sent: map[way]bool{},
		places: map[place]uint64{}, insts: map[[2]uint64]bool{}, counts: map[int]int{}, done: map[api.Errno]int{},
	}
	for i := range x.states {
		x.states[i].Procs = []api.Deployed{{Id: "p", Bytes: model.Bytes(catcher())}, {Id: "q", Bytes: model.Bytes(pair())}}
	}
	return x
}

// do does a command on a partition, holds what it tells against all that was told, and
// puts its answers into the box.
func (x *world) do(part int, r api.Record, what func(w *flow.Work) api.Errno) {
	x.pos[part]++
	w := flow.Begin(x.states[part], part, x.pos[part], x.now[part])
	err := what(w)
	if x.done[err]++; err == api.OK {
		before := x.states[part]
		for _, e := range w.Events() {
			x.told(before, e)
			before = fold.Apply(before, before.Pos+1, e)
		}
		x.states[part] = w.State()
		x.mustBeOnce()
	}
	for to, a := range match.Answers(x.states[part], r) {
		x.box = append(x.box, api.Send{To: to, R: a})
	}
}

// told holds an event against those ahead of it, s being the state ahead of it.
func (x *world) told(s api.State, e api.Record) {
	x.counts[e.Kind]++
	at := place{e.Key, e.N}
	switch e.Kind {
	case api.EPublished:
		x.messages[e.Key] = e
	case api.ESub:
		x.subs[at] = e
	case api.ESending:
		m, ok := x.messages[e.Key2]
		l, is := x.subs[at]
		asPublished := ok && m.From == e.From && m.Time == e.Time
		if !ok || !is || m.A != l.A || m.B != l.B || m.N <= e.Time && !asPublished {
			x.t.Fatalf("%+v is sent, to %+v, by %+v", m, l, e)
		}
		x.sent[way{e.Key2, at}] = true
	case api.EKept:
		inst := x.subs[at].Key2
		was, has := x.places[at]
		if has || x.insts[[2]uint64{e.Key2, inst}] || !x.sent[way{e.Key2, at}] {
			x.t.Fatalf("%+v: %d came there, and to the instance: %v; sent: %v", e, was, x.insts[[2]uint64{e.Key2, inst}], x.sent[way{e.Key2, at}])
		}
		x.places[at], x.insts[[2]uint64{e.Key2, inst}] = e.Key2, true
	}
}

// mustBeOnce: a message that is there is on its way to an instance, or came to it, once;
// those on their way are known to it.
func (x *world) mustBeOnce() {
	for _, s := range x.states {
		for _, m := range s.Messages {
			l := slices.Clone(m.Insts)
			slices.Sort(l)
			if len(slices.Compact(l)) != len(m.Insts) {
				x.t.Fatalf("%+v", m)
			}
			underway := map[uint64]int{}
			for _, l := range s.Listed {
				if l.Message == m.Key {
					underway[l.Inst]++
				}
				if n := underway[l.Inst]; n > 1 || n == 1 && !slices.Contains(m.Insts, l.Inst) {
					x.t.Fatalf("%+v on its way to %d of %+v", m, n, l)
				}
			}
		}
	}
}

// deliver does a command of the box; it is done again, which changes nothing.
func (x *world) deliver(s api.Send) {
	do := func(w *flow.Work) api.Errno { return between(w, s.R) }
	x.do(s.To, s.R, do)
	behind := x.states[s.To]
	w := flow.Begin(behind, s.To, x.pos[s.To], x.now[s.To])
	if err := do(w); err != api.OK {
		return
	}
	again := w.State()
	again.Pos, again.Done = behind.Pos, behind.Done
	if !fold.Same(again, behind) {
		x.t.Fatalf("%+v twice:\n%+v", s.R, w.Events())
	}
}

// between does a command that partitions send each other.
func between(w *flow.Work, r api.Record) api.Errno {
	calls := map[int]call{
		api.COpen: match.Open, api.COpened: match.Opened, api.CMatch: match.Match, api.CMatched: match.Matched, api.CMissed: match.Missed,
	}
	return calls[r.Kind](w, r)
}

// retry puts what is to be sent into the box.
func (x *world) retry(part int) {
	for to, r := range match.Pending(x.states[part], len(x.states)) {
		x.box = append(x.box, api.Send{To: to, R: r})
	}
}

func pick[T any](g *rand.Rand, l []T) (T, bool) {
	if len(l) == 0 {
		var zero T
		return zero, false
	}
	return l[g.Intn(len(l))], true
}

// act does one thing, on some partition.
func (x *world) act(g *rand.Rand) {
	part := g.Intn(len(x.states))
	s := x.states[part]
	key := []string{"k", "k", "j"}[g.Intn(3)]
	switch g.Intn(16) {
	case 0, 1:
		id := []string{"p", "q"}[g.Intn(2)]
		x.do(part, api.Record{}, func(w *flow.Work) api.Errno { return w.Create(id, []api.Var{text("s", key)}) })
	case 2, 3:
		r := pub([]string{"paid", "ship"}[g.Intn(2)], key, []string{"", "x", "y"}[g.Intn(3)], g.Int63n(6), num("m", g.Int63n(9)))
		x.do(match.Shard(key, len(x.states)), r, func(w *flow.Work) api.Errno { return match.Publish(w, r) })
	case 4:
		if j, has := pick(g, s.Jobs); has {
			x.do(part, api.Record{}, func(w *flow.Work) api.Errno { return w.Complete(j.Key, nil) })
		}
	case 5:
		if i, has := pick(g, s.Insts); has && g.Intn(3) == 0 {
			x.do(part, api.Record{}, func(w *flow.Work) api.Errno { return w.Cancel(i.Key) })
		}
	case 6:
		x.now[part] += g.Int63n(3)
	case 7:
		if m, has := pick(g, s.Messages); has {
			x.do(part, api.Record{}, func(w *flow.Work) api.Errno { return match.Expire(w, m.Key) })
		}
	case 8:
		if len(x.box) < 30 {
			x.retry(part)
		}
	default:
		x.mail(g)
	}
}

// mail delivers a command of the box, out of order, and drops it or not; some are lost.
func (x *world) mail(g *rand.Rand) {
	if len(x.box) == 0 {
		return
	}
	i := g.Intn(len(x.box))
	s := x.box[i]
	if g.Intn(3) > 0 {
		x.box = slices.Delete(x.box, i, i+1)
	}
	if g.Intn(6) > 0 {
		x.deliver(s)
	}
}

// settle delivers all, in order and losing none, till nothing is to be sent any more.
func (x *world) settle() {
	for range 200 {
		for part := range x.states {
			x.retry(part)
		}
		if len(x.box) == 0 {
			return
		}
		for len(x.box) > 0 {
			s := x.box[0]
			x.box = x.box[1:]
			x.deliver(s)
		}
	}
	x.t.Fatal("it doesn't come to rest")
}

// P17.9: with mail that is late, lost, doubled and out of order, a message comes to an
// instance at most once; a place gets one of its name and key, which lived when it was
// sent, or was published then; and a command that comes again does nothing.
func TestRandomRuns(t *testing.T) {
	counts, done := map[int]int{}, map[api.Errno]int{}
	for seed := range int64(60) {
		g := rand.New(rand.NewSource(seed))
		x := newWorld(t, 1+g.Intn(4))
		for range 300 {
			x.act(g)
		}
		x.settle()
		for k, n := range x.counts {
			counts[k] += n
		}
		for k, n := range x.done {
			done[k] += n
		}
	}
	for _, kind := range []int{api.EOpen, api.EKept, api.EListed, api.EPublished, api.EExpired, api.ESending, api.EMatched, api.EMissed, api.EDone} {
		if counts[kind] < 150 {
			t.Errorf("there were %d events of the kind %d", counts[kind], kind)
		}
	}
	for _, err := range []api.Errno{api.OK, api.ErrState, api.ErrThere} {
		if done[err] < 100 {
			t.Errorf("the answer %d was told %d times", err, done[err])
		}
	}
}

// P17.9: a message on its way to one place of an instance goes to another one of it only
// when it missed the first.
func TestOneAnInstance(t *testing.T) {
	l := []api.Listed{at(1), at(2), at(3)}
	for i := range l {
		l[i].Inst = 9
	}
	w := begin(state(l))
	w.mustDo(t, "published", match.Publish, pub("paid", "k", "x", 50), published(first, "paid", "k", "x", 150), sending(1, 4, first))
	w.mustDo(t, "missed", match.Missed, to(1, 4, first), missed(1, 4, first), sending(2, 4, first))
	w.mustDo(t, "missed again", match.Missed, to(1, 4, first), done())
	w.mustDo(t, "matched", match.Matched, to(2, 4, first), matched(2, 4, first))
	w.mustDo(t, "a late one", match.Missed, to(2, 4, first), done())
	w.mustDo(t, "listed anew", match.Open, open(1, 9, 4, "paid", "k"), listed(1, 9, 4, "paid", "k"))
}

// P17.9: the whole way of a message, on two partitions: what is sent again and again
// ends as it is answered.
func TestWholeWay(t *testing.T) {
	x := newWorld(t, 2)
	catcher := func(w *flow.Work) api.Errno { return w.Create("p", []api.Var{text("s", "k")}) }
	x.do(0, api.Record{}, catcher)
	token := x.states[0].Tokens[0].Key
	x.retry(0)
	x.retry(0)
	want := copen(1, token, x.states[0].Insts[0].Key, 1, "paid", "k")
	if len(x.box) != 2 || !sameSend(x.box[0], want) || !sameSend(x.box[1], want) {
		t.Fatalf("%+v", x.box)
	}
	x.settle()
	if !x.states[0].Subs[0].Open || len(x.states[1].Listed) != 1 {
		t.Fatalf("%+v", x.states)
	}
	r := pub("paid", "k", "x", 50, num("m", 7))
	x.do(1, r, func(w *flow.Work) api.Errno { return match.Publish(w, r) })
	x.settle()
	if s := x.states[0]; len(s.Jobs) != 1 || !slices.Equal(s.Insts[0].Vars, []api.Var{num("m", 7), text("s", "k")}) {
		t.Errorf("%+v", s)
	}
	if s := x.states[1]; len(s.Listed) != 1 || s.Listed[0].Name != "ship" || !slices.Equal(s.Messages[0].Insts, []uint64{x.states[0].Insts[0].Key}) {
		t.Errorf("%+v", s)
	}
	x.now[1] = 50
	x.do(1, api.Record{}, func(w *flow.Work) api.Errno { return match.Expire(w, 1<<40+1) })
	if len(x.states[1].Messages) != 0 {
		t.Errorf("%+v", x.states[1])
	}
}
