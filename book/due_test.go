package book_test

import (
	"fmt"
	"math"
	"slices"
	"testing"

	"wherry/api"
	"wherry/book"
	"wherry/fold"
	"wherry/rec"
)

// What is due: each with the fields that the chapter tells; mustBeDue adds the class
// and the time.
func timer(token uint64, node int64) api.Record {
	return api.Record{Kind: api.CTimer, Key: token, N: node}
}
func late(key uint64) api.Record   { return api.Record{Kind: api.CLate, Key: key} }
func expire(key uint64) api.Record { return api.Record{Kind: api.CExpire, Key: key} }

func mustBeDue(t *testing.T, what string, s api.State, now int64, want ...api.Record) {
	t.Helper()
	before := fold.Clone(s)
	for i := range want {
		want[i].Class, want[i].Time = api.Command, now
	}
	if got := book.Due(s, now); !slices.EqualFunc(got, want, rec.Same) {
		t.Errorf("%s, at %d:\n%+v, want\n%+v", what, now, got, want)
	}
	if !fold.Same(s, before) {
		t.Errorf("%s, at %d: the state has changed", what, now)
	}
}

// P16.4: below the times nothing, at them and above them commands: timers, then jobs,
// then messages.
func TestDueTimes(t *testing.T) {
	s := state(held(5))
	s.Timers = []api.Timer{{Token: 105, Node: 3, When: 120}}
	s.Messages = []api.Message{{Key: 9, Name: "paid", For: "k", Id: "x", Until: 130, Vars: []api.Var{{Name: "a", V: api.Value{Kind: api.Int, N: 1}}}, Insts: []uint64{1}}}
	mustBeDue(t, "below all", s, 109)
	mustBeDue(t, "the job's", s, 110, late(5))
	mustBeDue(t, "below the timer's", s, 119, late(5))
	mustBeDue(t, "the timer's", s, 120, timer(105, 3), late(5))
	mustBeDue(t, "below the message's", s, 129, timer(105, 3), late(5))
	mustBeDue(t, "the message's", s, 130, timer(105, 3), late(5), expire(9))
	mustBeDue(t, "above all", s, 1<<40, timer(105, 3), late(5), expire(9))
	mustBeDue(t, "far below", s, -1)
	for _, now := range []int64{math.MinInt64, 0, math.MaxInt64} {
		mustBeDue(t, "an empty state", api.State{}, now)
	}
}

// P16.4: times of any size, below 0 too.
func TestDueTimesOfAnySize(t *testing.T) {
	times := []int64{math.MinInt64, -1 << 40, -5, -1, 0, 1, 5, 1 << 40, math.MaxInt64}
	for _, when := range times {
		for _, now := range times {
			s := state(had("w", when, job(1)))
			s.Timers = []api.Timer{{Token: 2, Node: 3, When: when}}
			s.Messages = []api.Message{{Key: 4, Until: when}}
			if when > now {
				mustBeDue(t, fmt.Sprint("when ", when), s, now)
			} else {
				mustBeDue(t, fmt.Sprint("when ", when), s, now, timer(2, 3), late(1), expire(4))
			}
		}
	}
}

// P16.4: of jobs just those that somebody has; their Type and Retries don't count.
func TestDueJobs(t *testing.T) {
	s := state(
		job(1),
		held(2),
		had("", 50, job(3)),
		with(held(4), func(j *api.Job) { j.Retries = 0 }),
		had("w", 111, job(5)),
		with(held(6), func(j *api.Job) { j.Type = "" }),
		had(" ", 0, job(7)),
		had("w", -3, job(8)),
	)
	mustBeDue(t, "jobs", s, 110, late(2), late(4), late(6), late(7), late(8))
}

// P16.4: each in its list's order, whatever the keys and the times do; elements of one
// key are told each, and nodes as they are.
func TestDueOrder(t *testing.T) {
	s := state(held(9), had("v", 105, job(3)), had("v", 1, job(3)), had("u", 500, job(1)), held(2))
	s.Tokens = nil
	s.Timers = []api.Timer{{Token: 8, Node: 4, When: 90}, {Token: 8, Node: 1, When: 110}, {Token: 7, Node: 2, When: 111}, {Token: 7, Node: -1, When: 3}, {Token: 8, Node: 4, When: 90}, {Token: math.MaxUint64, Node: math.MaxInt, When: 0}, {Node: math.MinInt, When: 0}}
	s.Messages = []api.Message{{Key: 6, Until: 110}, {Key: 5, Until: 111}, {Key: 2, Until: 3}, {Key: 6, Until: 4}, {Key: math.MaxUint64}}
	mustBeDue(t, "odd", s, 110,
		timer(8, 4), timer(8, 1), timer(7, -1), timer(8, 4), timer(math.MaxUint64, math.MaxInt), timer(0, math.MinInt),
		late(9), late(3), late(3), late(2),
		expire(6), expire(2), expire(6), expire(math.MaxUint64))
}

// R3: what is told is memory of its own.
func TestDueTellsNewMemory(t *testing.T) {
	s := state(held(1), held(2))
	l := book.Due(s, 110)
	clear(l[:cap(l)])
	mustBeDue(t, "again", s, 110, late(1), late(2))
}

// P16.5: what is due is due again and again, till events do away with it.
func TestDueUntilItIsDone(t *testing.T) {
	s := state(held(5))
	s.Timers = []api.Timer{{Token: 105, Node: 3, When: 110}}
	s.Messages = []api.Message{{Key: 9, Until: 110}, {Key: 10, Until: 110}}
	w := begin(s, 110)
	due := func(want ...api.Record) {
		t.Helper()
		mustBeDue(t, "once", w.State(), 110, want...)
		mustBeDue(t, "again, later", w.State(), 200, want...)
	}
	due(timer(105, 3), late(5), expire(9), expire(10))
	w.mustDo(t, "late", w.late(5), back(5, 3))
	due(timer(105, 3), expire(9), expire(10))
	w.Emit(api.Record{Kind: api.EExpired, Key: 9})
	due(timer(105, 3), expire(10))
	w.Emit(api.Record{Kind: api.ELeft, Key: 105})
	due(expire(10))
}
