package match_test

import (
	"fmt"
	"math/rand"
	"slices"
	"testing"

	"wherry/api"
	"wherry/flow"
	"wherry/fold"
	"wherry/match"
	"wherry/model"
	"wherry/rec"
	"wherry/value"
)

// teller does a command by the chapter's words, one by one: of the command 21, on the
// partition 0.
type teller struct {
	s      api.State
	events []api.Record
	now    int64
}

func (o *teller) emit(r api.Record) {
	r.Class, r.From, r.Time = api.Event, 21, o.now
	o.events = append(o.events, r)
	o.s = fold.Apply(o.s, o.s.Pos+1, r)
}

func (o *teller) suits(m api.Message, l api.Listed) bool {
	for _, x := range m.Insts {
		if x == l.Inst {
			return false
		}
	}
	return m.Name == l.Name && m.For == l.Key && l.Message == 0 && len(m.Insts) < 500
}

// goOn: the message that is so goes to the first places that it suits from a place of
// the list on.
func (o *teller) goOn(most int, is func(m api.Message) bool) {
	for i := 0; i < len(o.s.Listed) && most > 0; i++ {
		for _, m := range o.s.Messages {
			if !is(m) {
				continue
			}
			if l := o.s.Listed[i]; o.suits(m, l) {
				o.emit(sending(l.Token, int64(l.Node), m.Key))
				most--
			}
			break
		}
	}
}

func (o *teller) publish(r api.Record) api.Errno {
	if !value.Named(r.A) || len(r.B) > 1024 || len(r.C) > 32 || r.N < 0 || r.N > 1<<20 || !value.Right(r.Vars) {
		return api.ErrArg
	}
	for _, m := range o.s.Messages {
		if r.C != "" && m.Until > o.now && m.Name == r.A && m.For == r.B && m.Id == r.C {
			return api.ErrThere
		}
	}
	e := published(o.s.Made+1, r.A, r.B, r.C, o.now+r.N, r.Vars...)
	e.Class, e.From, e.Time = api.Event, 21, o.now
	if _, err := rec.Bytes(e); err != api.OK || len(value.VarsBytes(r.Vars)) > 3000 {
		return api.ErrLong
	}
	o.emit(e)
	o.goOn(100, func(m api.Message) bool { return m.Key == e.Key })
	if r.N == 0 {
		o.emit(expired(e.Key))
	}
	return api.OK
}

func (o *teller) open(r api.Record) api.Errno {
	if !value.Named(r.A) || len(r.B) > 1024 || r.N < 0 || r.N > 30000 {
		return api.ErrArg
	}
	for _, l := range o.s.Listed {
		if l.Token == r.Key && int64(l.Node) == r.N {
			o.emit(done())
			return api.OK
		}
	}
	o.emit(listed(r.Key, r.Key2, r.N, r.A, r.B))
	for _, m := range o.s.Messages {
		if m.Until > o.now && o.suits(m, api.Listed{Token: r.Key, Inst: r.Key2, Node: int(r.N), Name: r.A, Key: r.B}) {
			o.emit(sending(r.Key, r.N, m.Key))
			break
		}
	}
	return api.OK
}

func (o *teller) opened(r api.Record) api.Errno {
	for _, x := range o.s.Subs {
		if x.Token == r.Key && int64(x.Node) == r.N && !x.Open {
			o.emit(opened(r.Key, r.N))
			return api.OK
		}
	}
	o.emit(done())
	return api.OK
}

func (o *teller) match(r api.Record) api.Errno {
	waits := false
	for _, x := range o.s.Subs {
		waits = waits || x.Token == r.Key && int64(x.Node) == r.N
	}
	for _, x := range o.s.Kept {
		waits = waits && !(x.Token == r.Key && int64(x.Node) == r.N && x.Message == r.Key2)
	}
	if !waits {
		o.emit(done())
		return api.OK
	}
	w := flow.Begin(o.s, 0, 21, o.now)
	if w.Arrive(r.Key, int(r.N), r.Key2, r.Vars) != api.OK {
		o.emit(stuck(r.Key))
		return api.OK
	}
	for _, e := range w.Events() {
		o.emit(e)
	}
	return api.OK
}

func (o *teller) acknowledge(r api.Record, e api.Record) api.Errno {
	has := uint64(0)
	for _, l := range o.s.Listed {
		if l.Token == r.Key && int64(l.Node) == r.N {
			has = l.Message
			break
		}
	}
	if has == 0 || has != r.Key2 {
		o.emit(done())
		return api.OK
	}
	o.emit(e)
	o.goOn(1, func(m api.Message) bool { return m.Key == r.Key2 && m.Until > o.now })
	return api.OK
}

func (o *teller) expire(key uint64) api.Errno {
	for _, m := range o.s.Messages {
		if m.Key != key {
			continue
		}
		if m.Until > o.now {
			return api.ErrState
		}
		o.emit(expired(key))
		return api.OK
	}
	return api.ErrNone
}

// do does a command by the chapter's words, and by the package.
func (o *teller) do(w *flow.Work, r api.Record) (want, got api.Errno) {
	switch r.Kind {
	case api.CPublish:
		return o.publish(r), match.Publish(w, r)
	case api.COpen:
		return o.open(r), match.Open(w, r)
	case api.COpened:
		return o.opened(r), match.Opened(w, r)
	case api.CMatch:
		return o.match(r), match.Match(w, r)
	case api.CMatched:
		return o.acknowledge(r, matched(r.Key, r.N, r.Key2)), match.Matched(w, r)
	case api.CMissed:
		return o.acknowledge(r, missed(r.Key, r.N, r.Key2)), match.Missed(w, r)
	}
	return o.expire(r.Key), match.Expire(w, r.Key)
}

// odd is a state that no command made: of few keys, of which lists have several
// elements, in any order.
func odd(g *rand.Rand) api.State {
	s := api.State{Pos: 20, Made: uint64(g.Intn(6)), Procs: []api.Deployed{{Id: "p", Bytes: model.Bytes(catcher())}}}
	key := func() uint64 { return uint64(g.Intn(5)) }
	name := func() string { return []string{"paid", "paid", "ship"}[g.Intn(3)] }
	of := func() string { return []string{"k", "k", "j"}[g.Intn(3)] }
	for range g.Intn(6) {
		l := api.Listed{Token: key(), Inst: key(), Node: g.Intn(3), Name: name(), Key: of()}
		if g.Intn(2) == 0 {
			l.Message, l.Vars = key(), many(g.Intn(2))
		}
		s.Listed = append(s.Listed, l)
	}
	for range g.Intn(5) {
		m := api.Message{Key: key(), Name: name(), For: of(), Id: []string{"", "x", "y"}[g.Intn(3)], Until: 98 + g.Int63n(5), Vars: many(g.Intn(2))}
		for range g.Intn(4) {
			m.Insts = append(m.Insts, key())
		}
		if g.Intn(8) == 0 {
			m.Insts = append(m.Insts, make([]uint64, 497)...)
		}
		s.Messages = append(s.Messages, m)
	}
	for range g.Intn(6) {
		s.Insts = append(s.Insts, api.Instance{Key: key(), Id: "p", Vars: []api.Var{text("s", "k")}})
		s.Tokens = append(s.Tokens, api.Token{Key: key(), Inst: key(), Node: 1 + g.Intn(3), By: g.Intn(3)})
		s.Subs = append(s.Subs, api.Sub{Token: key(), Inst: key(), Node: g.Intn(4), Name: name(), Key: of(), Open: g.Intn(2) == 0})
		s.Kept = append(s.Kept, api.Kept{Token: key(), Message: key(), Node: g.Intn(4)})
	}
	return s
}

// command is one of those that the package does, seldom one that may not be, often one
// of a place that is listed.
func command(g *rand.Rand, s api.State) api.Record {
	kinds := []int{api.CPublish, api.COpen, api.COpened, api.CMatch, api.CMatched, api.CMissed, api.CExpire}
	r := api.Record{Class: api.Command, Kind: kinds[g.Intn(len(kinds))], Key: uint64(g.Intn(5)), Key2: uint64(g.Intn(5)), N: int64(g.Intn(4))}
	r.A, r.B, r.C = []string{"paid", "ship"}[g.Intn(2)], []string{"k", "j"}[g.Intn(2)], []string{"", "x", "y"}[g.Intn(3)]
	r.Vars = many(g.Intn(3))
	if n := len(s.Listed); n > 0 && g.Intn(2) == 0 {
		l := s.Listed[g.Intn(n)]
		r.Key, r.N, r.Key2 = l.Token, int64(l.Node), l.Message
	}
	switch g.Intn(40) {
	case 0:
		r.A = "No"
	case 1:
		r.B = long(1020 + g.Intn(8))
	case 2:
		r.C = long(30 + g.Intn(5))
	case 3:
		r.N = []int64{-1, 30000, 30001, 1 << 20, 1<<20 + 1}[g.Intn(5)]
	case 4:
		r.Vars = many(16 + g.Intn(2))
	case 5:
		r.Vars = []api.Var{text("a", long(1000)), text("b", long(1000)), text("c", long(970+g.Intn(20)))}
	}
	return r
}

// P17.2 to P17.6, P17.8: in runs of commands of one work, from states that no command
// made, what is told is what the chapter's words come to.
func TestOracle(t *testing.T) {
	g := rand.New(rand.NewSource(17))
	type outcome struct {
		kind   int
		err    api.Errno
		events int
	}
	seen := map[outcome]int{}
	for run := range 8000 {
		s := odd(g)
		w, o := flow.Begin(s, 0, 21, 100), &teller{s: fold.Clone(s), now: 100}
		for range 1 + g.Intn(5) {
			r := command(g, o.s)
			ahead := len(o.events)
			want, got := o.do(w, r)
			what := fmt.Sprintf("run %d: %+v of %+v", run, r, s)
			if got != want {
				t.Fatalf("%s: %d, want %d", what, got, want)
			}
			if l := w.Events(); !slices.EqualFunc(l, o.events, rec.Same) {
				t.Fatalf("%s:\n%+v, want\n%+v", what, l[min(ahead, len(l)):], o.events[ahead:])
			}
			if !fold.Same(w.State(), o.s) {
				t.Fatalf("%s: the state\n%+v, want\n%+v", what, w.State(), o.s)
			}
			if want != api.OK && len(o.events) > ahead {
				t.Fatalf("%s: the words themselves", what)
			}
			mustSend(t, what, match.Pending(o.s, 3), o.pending(3)...)
			mustSend(t, what, match.Answers(o.s, r), o.answers(r)...)
			seen[outcome{r.Kind, want, min(3, len(o.events)-ahead)}]++
		}
	}
	for _, x := range []outcome{
		{api.CPublish, api.ErrArg, 0}, {api.CPublish, api.ErrThere, 0}, {api.CPublish, api.ErrLong, 0}, {api.CPublish, 0, 1}, {api.CPublish, 0, 2}, {api.CPublish, 0, 3},
		{api.COpen, api.ErrArg, 0}, {api.COpen, 0, 1}, {api.COpen, 0, 2}, {api.COpened, 0, 1},
		{api.CMatch, 0, 1}, {api.CMatch, 0, 3}, {api.CMatched, 0, 1}, {api.CMatched, 0, 2}, {api.CMissed, 0, 1}, {api.CMissed, 0, 2},
		{api.CExpire, api.ErrNone, 0}, {api.CExpire, api.ErrState, 0}, {api.CExpire, 0, 1},
	} {
		if seen[x] < 10 {
			t.Errorf("%+v was seen %d times", x, seen[x])
		}
	}
}

func (o *teller) pending(parts uint64) []api.Send {
	var l []api.Send
	for _, x := range o.s.Subs {
		if !x.Open {
			l = append(l, copen(int(sum(x.Key)%parts), x.Token, x.Inst, int64(x.Node), x.Name, x.Key))
		}
	}
	for _, x := range o.s.Listed {
		if x.Message != 0 {
			l = append(l, cmatch(int(x.Token>>40), x.Token, int64(x.Node), x.Message, x.Vars...))
		}
	}
	return l
}

func (o *teller) answers(r api.Record) []api.Send {
	switch r.Kind {
	case api.COpen:
		return []api.Send{answer(int(r.Key>>40), api.COpened, r.Key, r.N, 0)}
	case api.CMatch:
		for _, x := range o.s.Kept {
			if x.Token == r.Key && int64(x.Node) == r.N && x.Message == r.Key2 {
				return []api.Send{answer(int(r.Key2>>40), api.CMatched, r.Key, r.N, r.Key2)}
			}
		}
		return []api.Send{answer(int(r.Key2>>40), api.CMissed, r.Key, r.N, r.Key2)}
	}
	return nil
}
