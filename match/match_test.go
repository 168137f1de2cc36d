package match_test

import (
	"fmt"
	"math"
	"slices"
	"strings"
	"testing"

	"wherry/api"
	"wherry/flow"
	"wherry/fold"
	"wherry/match"
	"wherry/rec"
)

// What the events are: each with the fields that the chapter tells.
func published(key uint64, name, of, id string, until int64, vars ...api.Var) api.Record {
	return api.Record{Kind: api.EPublished, Key: key, A: name, B: of, C: id, N: until, Vars: vars}
}
func sending(token uint64, node int64, message uint64) api.Record {
	return api.Record{Kind: api.ESending, Key: token, N: node, Key2: message}
}
func expired(key uint64) api.Record { return api.Record{Kind: api.EExpired, Key: key} }
func listed(token, inst uint64, node int64, name, key string) api.Record {
	return api.Record{Kind: api.EListed, Key: token, Key2: inst, N: node, A: name, B: key}
}
func opened(token uint64, node int64) api.Record {
	return api.Record{Kind: api.EOpen, Key: token, N: node}
}
func stuck(token uint64) api.Record {
	return api.Record{Kind: api.EStuck, Key: token, A: "vars"}
}
func matched(token uint64, node int64, message uint64) api.Record {
	return api.Record{Kind: api.EMatched, Key: token, N: node, Key2: message}
}
func missed(token uint64, node int64, message uint64) api.Record {
	return api.Record{Kind: api.EMissed, Key: token, N: node, Key2: message}
}
func done() api.Record { return api.Record{Kind: api.EDone} }

// at is a listed place of paid, k: the node 4 of a token whose instance is 1000 more.
func at(token uint64) api.Listed {
	return api.Listed{Token: token, Inst: token + 1000, Node: 4, Name: "paid", Key: "k"}
}

// of is a message for paid, k that lives until 200.
func of(key uint64) api.Message {
	return api.Message{Key: key, Name: "paid", For: "k", Id: fmt.Sprint("id", key), Until: 200, Vars: []api.Var{num("m", int64(key))}}
}

// with is a thing that is changed.
func with[T any](x T, change func(x *T)) T {
	change(&x)
	return x
}

// underway is a listed place with a message on its way to it.
func underway(l api.Listed, message uint64, vars ...api.Var) api.Listed {
	l.Message, l.Vars = message, vars
	return l
}

func num(name string, n int64) api.Var {
	return api.Var{Name: name, V: api.Value{Kind: api.Int, N: n}}
}
func text(name, s string) api.Var {
	return api.Var{Name: name, V: api.Value{Kind: api.Text, S: s}}
}

// long is a name of n bytes.
func long(n int) string { return strings.Repeat("n", n) }

// state is one of listed places and messages.
func state(l []api.Listed, messages ...api.Message) api.State {
	return api.State{Pos: 20, Done: 10, Made: 500, Listed: l, Messages: messages}
}

// first is the key that the next message has on the partition 1.
const first = 1<<40 + 501

// work is one that is held against what its events make of the state that it began
// with.
type work struct {
	*flow.Work
	from api.State
}

// begin is the work of the command 21 on the partition 1, at the time 100; beginAt at
// another one.
func begin(s api.State) work { return beginAt(s, 100) }
func beginAt(s api.State, now int64) work {
	return work{flow.Begin(s, 1, 21, now), fold.Clone(s)}
}

// mustTell: the work's events are those ahead and these; its state is what they make.
func (w work) mustTell(t *testing.T, what string, ahead []api.Record, l ...api.Record) {
	t.Helper()
	want := slices.Clone(ahead)
	for _, r := range l {
		r.Class, r.From, r.Time = api.Event, w.Pos(), w.Now()
		want = append(want, r)
	}
	got := w.Events()
	if !slices.EqualFunc(got, want, rec.Same) {
		t.Fatalf("%s:\n%+v, want\n%+v", what, got[min(len(ahead), len(got)):], want[len(ahead):])
	}
	s := w.from
	for _, r := range want {
		s = fold.Apply(s, s.Pos+1, r)
	}
	if !fold.Same(w.State(), s) {
		t.Fatalf("%s: the state\n%+v, want\n%+v", what, w.State(), s)
	}
}

// call is one of the package's.
type call func(w *flow.Work, r api.Record) api.Errno

// mustDo: a call is done, and makes these events.
func (w work) mustDo(t *testing.T, what string, do call, r api.Record, l ...api.Record) {
	t.Helper()
	ahead := w.Events()
	if err := do(w.Work, r); err != api.OK {
		t.Fatalf("%s: %d", what, err)
	}
	w.mustTell(t, what, ahead, l...)
}

// mustRefuse: a call is refused, and the work is as it was.
func (w work) mustRefuse(t *testing.T, what string, do call, r api.Record, want api.Errno) {
	t.Helper()
	ahead := w.Events()
	if err := do(w.Work, r); err != want {
		t.Errorf("%s: %d, want %d", what, err, want)
	}
	w.mustTell(t, what, ahead)
}

// expire is a call that asks for the Key alone.
func expire(w *flow.Work, r api.Record) api.Errno { return match.Expire(w, r.Key) }

// mustHold: the state has just these listed places and messages.
func (w work) mustHold(t *testing.T, what string, l []api.Listed, messages ...api.Message) {
	t.Helper()
	got := w.State()
	want := got
	want.Listed, want.Messages = l, messages
	if !fold.Same(got, want) {
		t.Errorf("%s:\n%+v\n%+v, want\n%+v\n%+v", what, got.Listed, got.Messages, l, messages)
	}
}

// pub is a command that publishes.
func pub(name, key, id string, wait int64, vars ...api.Var) api.Record {
	return api.Record{Class: api.Command, Kind: api.CPublish, A: name, B: key, C: id, N: wait, Vars: vars}
}

// open is a command that lists a place; to is one about a place and a message.
func open(token, inst uint64, node int64, name, key string) api.Record {
	return api.Record{Class: api.Command, Kind: api.COpen, Key: token, Key2: inst, N: node, A: name, B: key}
}
func to(token uint64, node int64, message uint64, vars ...api.Var) api.Record {
	return api.Record{Class: api.Command, Kind: api.CMatch, Key: token, N: node, Key2: message, Vars: vars}
}

// P17.1, P17.2: the chapter's examples.
func TestExamples(t *testing.T) {
	if got := match.Shard("ab", 4); got != 1 {
		t.Error(got)
	}
	w := begin(state([]api.Listed{at(7)}))
	w.mustDo(t, "published", match.Publish, pub("paid", "k", "x", 50), published(first, "paid", "k", "x", 150), sending(7, 4, first))
	w.mustRefuse(t, "again", match.Publish, pub("paid", "k", "x", 50), api.ErrThere)
}

// R1: of a work that is nil each call answers ErrArg, whatever else is wrong.
func TestNilWork(t *testing.T) {
	calls := map[string]call{
		"Publish": match.Publish, "Open": match.Open, "Opened": match.Opened, "Match": match.Match,
		"Matched": match.Matched, "Missed": match.Missed, "Expire": expire,
	}
	for what, do := range calls {
		for _, r := range []api.Record{
			{},
			pub("paid", "k", "x", 50),
			open(1, 2, 3, "paid", "k"),
			to(1, 2, 3, num("x", 1)),
			{Key: math.MaxUint64, Key2: math.MaxUint64, N: math.MinInt64, A: "No", B: long(5000), C: long(5000), Vars: make([]api.Var, 17)},
		} {
			if err := do(nil, r); err != api.ErrArg {
				t.Errorf("%s: %d", what, err)
			}
		}
	}
}

// R1: a work that was never begun is one of the empty state: of a message that is
// published there, at no position, no record may be.
func TestZeroWork(t *testing.T) {
	w := work{new(flow.Work), api.State{}}
	w.mustRefuse(t, "Publish", match.Publish, pub("paid", "k", "x", 50), api.ErrLong)
	w.mustRefuse(t, "Expire", expire, api.Record{}, api.ErrNone)
	w.mustDo(t, "Opened", match.Opened, api.Record{}, done())
	w.mustDo(t, "Match", match.Match, api.Record{}, done())
	w.mustDo(t, "Matched", match.Matched, api.Record{}, done())
	w.mustDo(t, "Missed", match.Missed, api.Record{}, done())
	w.mustDo(t, "Open", match.Open, open(0, 0, 0, "a", ""), listed(0, 0, 0, "a", ""))
}

// The calls ask for the fields that the chapter names, not for a record's others.
func TestOtherFieldsDontCount(t *testing.T) {
	odd := func(r api.Record) api.Record {
		r.Class, r.Kind, r.From, r.Time, r.Key3, r.M = 9, -9, 9, -9, 9, 9
		return r
	}
	oddPub := odd(pub("paid", "k", "x", 50, num("x", 1)))
	oddPub.Key, oddPub.Key2 = 7, 8
	w := begin(state([]api.Listed{at(7)}))
	w.mustDo(t, "Publish", match.Publish, oddPub, published(first, "paid", "k", "x", 150, num("x", 1)), sending(7, 4, first))
	w.mustDo(t, "Open", match.Open, odd(with(open(8, 2, 4, "paid", "k"), func(r *api.Record) {
		r.C, r.Vars = long(5000), make([]api.Var, 17)
	})), listed(8, 2, 4, "paid", "k"), sending(8, 4, first))
	wild := func(r api.Record) api.Record {
		r = odd(r)
		r.A, r.B, r.C = "No name", long(5000), long(5000)
		return r
	}
	w.mustDo(t, "Opened", match.Opened, wild(to(1, 2, 3)), done())
	w.mustDo(t, "Match", match.Match, wild(to(1, 2, 3)), done())
	w.mustDo(t, "Matched", match.Matched, wild(to(7, 4, first, make([]api.Var, 17)...)), matched(7, 4, first))
	w.mustDo(t, "Missed", match.Missed, wild(to(8, 4, first, make([]api.Var, 17)...)), missed(8, 4, first))
}
