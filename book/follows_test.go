package book_test

import (
	"math/rand"
	"slices"
	"testing"

	"wherry/api"
	"wherry/book"
	"wherry/flow"
	"wherry/model"
	"wherry/rec"
)

// three is a process of two tasks, which begin together, at one of which a timer sits.
func three() api.Process {
	return api.Process{Id: "p", Nodes: []api.Node{
		{Kind: api.NStart, Parent: -1, Host: -1, Name: "s"},
		{Kind: api.NAnd, Parent: -1, Host: -1, Name: "a"},
		{Kind: api.NTask, Parent: -1, Host: -1, Name: "t", Type: "pay", N: 3},
		{Kind: api.NTask, Parent: -1, Host: -1, Name: "u", Type: "ship", N: 1},
		{Kind: api.NOnTime, Parent: -1, Host: 3, Name: "o", N: 4},
		{Kind: api.NEnd, Parent: -1, Host: -1, Name: "e"},
	}, Flows: []api.Flow{{From: 0, To: 1}, {From: 1, To: 2}, {From: 1, To: 3}, {From: 2, To: 5}, {From: 3, To: 5}, {From: 4, To: 2}}}
}

// owners are who has each job that somebody has, as the events told it.
type owners map[uint64]string

// told: by an event a job becomes somebody's, or nobody's; never somebody else's.
func (o owners) told(t *testing.T, l []api.Record, s api.State) {
	t.Helper()
	for _, r := range l {
		switch r.Kind {
		case api.ETaken:
			if was, has := o[r.Key]; has {
				t.Fatalf("%d is %s's, and is given to %s", r.Key, was, r.A)
			}
			o[r.Key] = r.A
		case api.EBack:
			delete(o, r.Key)
		}
	}
	there := map[uint64]bool{}
	for _, j := range s.Jobs {
		if there[j.Key] = true; j.Worker != o[j.Key] {
			t.Fatalf("%d is %q's, want %q", j.Key, j.Worker, o[j.Key])
		}
	}
	for key := range o {
		if !there[key] { // It was completed, or its token left.
			delete(o, key)
		}
	}
}

// act does one thing with a state's jobs.
func act(g *rand.Rand, w *flow.Work, s api.State) api.Errno {
	key := uint64(g.Intn(40))
	if len(s.Jobs) > 0 && g.Intn(5) > 0 {
		key = s.Jobs[g.Intn(len(s.Jobs))].Key
	}
	names := []string{"pay", "ship", "v", "w", "", "X"}
	switch g.Intn(7) {
	case 0:
		return w.Create("p", nil)
	case 1:
		return w.Complete(key, nil)
	case 2:
		return book.Fail(w, key, g.Int63n(12)-1)
	case 3:
		return book.Late(w, key)
	case 4:
		for _, x := range s.Tokens {
			if x.Stuck != "" {
				return w.Resolve(x.Key, nil)
			}
		}
	case 5:
		for _, x := range s.Timers {
			return w.Timer(x.Token, x.Node)
		}
	}
	_, err := book.Activate(w, names[g.Intn(6)], names[2+g.Intn(4)], g.Int63n(4), g.Int63n(6))
	return err
}

// isDue: is a command among these, whatever its time?
func isDue(l []api.Record, r api.Record) bool {
	return slices.ContainsFunc(l, func(x api.Record) bool {
		x.Time = r.Time
		return rec.Same(x, r)
	})
}

// isDone: did a command's cause go away by events?
func isDone(r api.Record, l []api.Record, s api.State) bool {
	switch r.Kind {
	case api.CTimer:
		return !slices.ContainsFunc(s.Timers, func(x api.Timer) bool { return x.Token == r.Key })
	case api.CLate:
		return slices.ContainsFunc(l, func(x api.Record) bool { return x.Kind == api.EBack && x.Key == r.Key }) ||
			!slices.ContainsFunc(s.Jobs, func(x api.Job) bool { return x.Key == r.Key })
	}
	return false
}

// P16.5: in runs of commands a job that somebody has is nobody else's, until it is
// back; what is due once is due until it is done, and can be done.
func TestRandomRuns(t *testing.T) {
	g := rand.New(rand.NewSource(16))
	answers, dues := map[api.Errno]int{}, map[int]int{}
	for range 150 {
		s := api.State{Procs: []api.Deployed{{Id: "p", Bytes: model.Bytes(three())}}}
		has, now := owners{}, int64(0)
		var due []api.Record
		for pos := range uint64(60) {
			now += g.Int63n(3)
			w := flow.Begin(s, 0, pos+1, now)
			answers[act(g, w, s)]++
			l := w.Events()
			s = w.State()
			has.told(t, l, s)
			next := book.Due(s, now)
			for _, r := range due {
				if !isDue(next, r) && !isDone(r, l, s) {
					t.Fatalf("%+v was due, and is not: %+v", r, s)
				}
			}
			due = next
			for _, r := range due {
				dues[r.Kind]++
				mustBeDoable(t, r, s, now)
			}
		}
	}
	for _, err := range []api.Errno{api.OK, api.ErrArg, api.ErrNone, api.ErrState} {
		if answers[err] < 100 {
			t.Errorf("the error %d was told %d times", err, answers[err])
		}
	}
	if dues[api.CTimer] < 100 || dues[api.CLate] < 100 {
		t.Errorf("%v", dues)
	}
}

// mustBeDoable: a command that is due isn't refused; done, it is due no more.
func mustBeDoable(t *testing.T, r api.Record, s api.State, now int64) {
	t.Helper()
	w := flow.Begin(s, 0, 99, now)
	err := api.OK
	if r.Kind == api.CTimer {
		err = w.Timer(r.Key, int(r.N))
	} else {
		err = book.Late(w, r.Key)
	}
	if err != api.OK || isDue(book.Due(w.State(), now), r) {
		t.Fatalf("%+v of %+v: %d", r, s, err)
	}
}

// P16.5: what is due at a time is due at each later one, in states that no command made
// too.
func TestDueStaysDue(t *testing.T) {
	g := rand.New(rand.NewSource(17))
	for range 200 {
		var s api.State
		for range g.Intn(6) {
			s.Jobs = append(s.Jobs, api.Job{Key: uint64(g.Intn(5)), Worker: []string{"", "v", "w"}[g.Intn(3)], Until: g.Int63n(20) - 5})
			s.Timers = append(s.Timers, api.Timer{Token: uint64(g.Intn(5)), Node: g.Intn(3), When: g.Int63n(20) - 5})
			s.Messages = append(s.Messages, api.Message{Key: uint64(g.Intn(5)), Until: g.Int63n(20) - 5})
		}
		var last []api.Record
		for now := int64(-7); now < 20; now++ {
			next := book.Due(s, now)
			for _, r := range last {
				if !isDue(next, r) {
					t.Fatalf("%+v was due, and is not at %d: %+v", r, now, s)
				}
			}
			last = next
		}
		has := 0
		for _, j := range s.Jobs {
			if j.Worker != "" {
				has++
			}
		}
		if len(last) != has+len(s.Timers)+len(s.Messages) {
			t.Fatalf("%+v of %+v", last, s)
		}
	}
}

// P16.5: a job that somebody has is given to nobody else until it is back, by Late or
// by Fail; without retries to nobody then.
func TestSomebodysUntilItIsBack(t *testing.T) {
	w := begin(state(job(5)), 100)
	w.mustGive(t, "to w", "pay", "w", 1, 10, held(5))
	for _, who := range []string{"v", "w"} {
		w.mustGive(t, "while w has it", "pay", who, 1, 10)
	}
	w = begin(w.State(), 500)
	w.mustGive(t, "though it is late", "pay", "v", 1, 10)
	w.mustDo(t, "late", w.late(5), back(5, 3))
	w.mustGive(t, "to v", "pay", "v", 1, 10, had("v", 510, job(5)))
	w.mustRefuse(t, "v isn't late", w.late(5), api.ErrState)
	w.mustGive(t, "while v has it", "pay", "w", 1, 10)
	w.mustDo(t, "failed", w.fail(5, 1), back(5, 1))
	once := with(job(5), func(j *api.Job) { j.Retries = 1 })
	w.mustGive(t, "to u", "pay", "u", 1, 10, had("u", 510, once))
	w.mustDo(t, "failed for good", w.fail(5, 0), back(5, 0), stuck(105))
	w.mustGive(t, "without retries", "pay", "u", 1, 10)
	w.mustRefuse(t, "without retries", w.late(5), api.ErrState)
}

// P16.3 and chapter 15: a token that is stuck for its job's retries is resolved with a
// new job.
func TestResolvedBehindFail(t *testing.T) {
	w := flow.Begin(api.State{Procs: []api.Deployed{{Id: "p", Bytes: model.Bytes(three())}}}, 0, 1, 100)
	if err := w.Create("p", nil); err != api.OK {
		t.Fatal(err)
	}
	l, err := book.Activate(w, "ship", "w", 9, 9)
	if err != api.OK || len(l) != 1 {
		t.Fatal(err, l)
	}
	if err := book.Fail(w, l[0].Key, 0); err != api.OK {
		t.Fatal(err)
	}
	if err := w.Resolve(l[0].Token, nil); err != api.OK {
		t.Fatal(err)
	}
	again, err := book.Activate(w, "ship", "v", 9, 9)
	if err != api.OK || len(again) != 1 || again[0].Key == l[0].Key || again[0].Retries != 1 || again[0].Worker != "v" {
		t.Error(err, again)
	}
}
