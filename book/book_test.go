package book_test

import (
	"math"
	"slices"
	"strings"
	"testing"

	"wherry/api"
	"wherry/book"
	"wherry/flow"
	"wherry/fold"
	"wherry/rec"
)

// What the events are: each with the fields that the chapter tells.
func taken(key uint64, worker string, until int64) api.Record {
	return api.Record{Kind: api.ETaken, Key: key, A: worker, N: until}
}
func back(key uint64, retries int64) api.Record {
	return api.Record{Kind: api.EBack, Key: key, N: retries}
}
func stuck(token uint64) api.Record {
	return api.Record{Kind: api.EStuck, Key: token, A: "job"}
}
func done() api.Record { return api.Record{Kind: api.EDone} }

// job is one that nobody has, held one that w has until 110.
func job(key uint64) api.Job {
	return api.Job{Key: key, Token: key + 100, Type: "pay", Retries: 3}
}
func held(key uint64) api.Job { return had("w", 110, job(key)) }

// had is a job, but a worker has it until then.
func had(worker string, until int64, j api.Job) api.Job {
	j.Worker, j.Until = worker, until
	return j
}

// with is a job that is changed.
func with(j api.Job, change func(j *api.Job)) api.Job {
	change(&j)
	return j
}

// state is one of jobs, each with its token.
func state(jobs ...api.Job) api.State {
	s := api.State{Pos: 20, Done: 10, Made: 200, Jobs: jobs}
	for _, j := range jobs {
		s.Tokens = append(s.Tokens, api.Token{Key: j.Token, Inst: 1, Node: 1})
	}
	return s
}

// work is one that is held against what its events make of the state that it began
// with.
type work struct {
	*flow.Work
	from api.State
}

// begin is the work of the command 21, at a time.
func begin(s api.State, now int64) work {
	return work{flow.Begin(s, 1, 21, now), fold.Clone(s)}
}

// mustTell: the work's events are those ahead and these; its state is what they make.
func (w work) mustTell(t *testing.T, what string, ahead []api.Record, l ...api.Record) {
	t.Helper()
	want := slices.Clone(ahead)
	for _, r := range l {
		r.Class, r.From, r.Time = api.Event, 21, w.Now()
		want = append(want, r)
	}
	got := w.Events()
	if !slices.EqualFunc(got, want, rec.Same) {
		t.Fatalf("%s:\n%+v, want\n%+v", what, got[min(len(ahead), len(got)):], want[len(ahead):])
	}
	s := w.from
	for _, r := range want {
		s = fold.Apply(s, s.Pos+1, r)
	}
	if !fold.Same(w.State(), s) {
		t.Fatalf("%s: the state\n%+v, want\n%+v", what, w.State(), s)
	}
}

// mustGive: an activation gives these jobs, each by an event; by none it tells EDone.
func (w work) mustGive(t *testing.T, what, kind, worker string, most, wait int64, want ...api.Job) {
	t.Helper()
	ahead := w.Events()
	got, err := book.Activate(w.Work, kind, worker, most, wait)
	if err != api.OK || !slices.Equal(got, want) {
		t.Fatalf("%s: %d\n%+v, want\n%+v", what, err, got, want)
	}
	var l []api.Record
	for _, j := range want {
		l = append(l, taken(j.Key, worker, j.Until))
	}
	if len(want) == 0 {
		l = append(l, done())
	}
	w.mustTell(t, what, ahead, l...)
}

// mustGiveNone: an activation is refused by ErrArg, and the work is as it was.
func (w work) mustGiveNone(t *testing.T, what, kind, worker string, most, wait int64) {
	t.Helper()
	ahead := w.Events()
	got, err := book.Activate(w.Work, kind, worker, most, wait)
	if err != api.ErrArg || len(got) != 0 {
		t.Errorf("%s: %d, %+v", what, err, got)
	}
	w.mustTell(t, what, ahead)
}

// mustDo: a call is done, and makes these events; mustRefuse: it is refused, and the
// work is as it was.
func (w work) mustDo(t *testing.T, what string, do func() api.Errno, l ...api.Record) {
	t.Helper()
	ahead := w.Events()
	if err := do(); err != api.OK {
		t.Fatalf("%s: %d", what, err)
	}
	w.mustTell(t, what, ahead, l...)
}
func (w work) mustRefuse(t *testing.T, what string, do func() api.Errno, want api.Errno) {
	t.Helper()
	ahead := w.Events()
	if err := do(); err != want {
		t.Errorf("%s: %d, want %d", what, err, want)
	}
	w.mustTell(t, what, ahead)
}

// The calls as closures.
func (w work) fail(job uint64, retries int64) func() api.Errno {
	return func() api.Errno { return book.Fail(w.Work, job, retries) }
}
func (w work) late(job uint64) func() api.Errno {
	return func() api.Errno { return book.Late(w.Work, job) }
}

// P16.2, P16.3: the chapter's example.
func TestExample(t *testing.T) {
	w := begin(state(job(5)), 100)
	w.mustGive(t, "first", "pay", "w", 5, 10, held(5))
	w.mustGive(t, "again", "pay", "w", 5, 10)
	w = begin(w.State(), 109)
	w.mustRefuse(t, "at 109", w.late(5), api.ErrState)
	w = begin(w.State(), 110)
	w.mustDo(t, "at 110", w.late(5), back(5, 3))
}

// R1: of a work that is nil each call answers ErrArg, whatever else is wrong.
func TestNilWork(t *testing.T) {
	for _, n := range []int64{1, 0, -1, 3, 32, 33, math.MinInt64, math.MaxInt64} {
		for _, name := range []string{"pay", "", "no name"} {
			if l, err := book.Activate(nil, name, name, n, n); err != api.ErrArg || len(l) != 0 {
				t.Errorf("Activate %q %d: %d, %v", name, n, err, l)
			}
		}
		if err := book.Fail(nil, 5, n); err != api.ErrArg {
			t.Errorf("Fail %d: %d", n, err)
		}
		if err := book.Late(nil, uint64(n)); err != api.ErrArg {
			t.Errorf("Late %d: %d", n, err)
		}
	}
}

// long is a name of n bytes.
func long(n int) string { return strings.Repeat("n", n) }
