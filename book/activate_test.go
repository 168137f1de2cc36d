package book_test

import (
	"fmt"
	"math"
	"slices"
	"testing"

	"wherry/api"
	"wherry/book"
)

// P16.2: kinds and workers that are no names.
func TestActivateNames(t *testing.T) {
	bad := []string{"", " ", "Pay", "1", "_a", "a-b", "a b", "pay ", "and", "or", "not", "true", "false", "len", "é", "a\x00", long(33), long(5000)}
	good := []string{"a", "pay", "a_1", "p2", "nothing", "ands", long(32)}
	s := state(job(1), with(job(2), func(j *api.Job) { j.Type = "" }), with(job(3), func(j *api.Job) { j.Type = "Pay" }))
	w := begin(s, 100)
	for _, name := range bad {
		w.mustGiveNone(t, fmt.Sprintf("of a kind %.40q", name), name, "w", 1, 1)
		w.mustGiveNone(t, fmt.Sprintf("by a worker %.40q", name), "pay", name, 1, 1)
		w.mustGiveNone(t, fmt.Sprintf("both %.40q", name), name, name, 1, 1)
	}
	for _, name := range good {
		w := begin(state(with(job(1), func(j *api.Job) { j.Type = name })), 100)
		w.mustGive(t, name, name, name, 1, 1, had(name, 101, with(job(1), func(j *api.Job) { j.Type = name })))
	}
}

// P16.2: how many, and for how long, at most and at least.
func TestActivateBounds(t *testing.T) {
	w := begin(state(job(1)), 100)
	for _, n := range []int64{math.MinInt64, -1, 0, 33, 34, 1 << 20, 1<<32 + 1, math.MaxInt64} {
		w.mustGiveNone(t, fmt.Sprint("most ", n), "pay", "w", n, 10)
		w.mustGiveNone(t, fmt.Sprint("most of none ", n), "none", "w", n, 10)
	}
	for _, n := range []int64{math.MinInt64, -1, 0, 1<<20 + 1, 1<<32 + 1, math.MaxInt64} {
		w.mustGiveNone(t, fmt.Sprint("wait ", n), "pay", "w", 1, n)
	}
	for _, most := range []int64{1, 2, 31, 32} {
		for _, wait := range []int64{1, 2, 1<<20 - 1, 1 << 20} {
			w := begin(state(job(1)), 100)
			w.mustGive(t, fmt.Sprint(most, " for ", wait), "pay", "w", most, wait, had("w", 100+wait, job(1)))
		}
	}
}

// P16.2: the first ones, as many as are asked for, as far as there are so many.
func TestActivateHowMany(t *testing.T) {
	var jobs, want []api.Job
	for i := range uint64(80) {
		j := job(2*i + 1)
		switch i % 4 {
		case 1:
			j.Type = "ship"
		case 2:
			j = had("v", 105, j)
		default:
			want = append(want, had("w", 110, j))
		}
		jobs = append(jobs, j)
	}
	if len(want) != 40 {
		t.Fatal(len(want))
	}
	for most := 1; most <= 32; most++ {
		w := begin(state(jobs...), 100)
		w.mustGive(t, "at first", "pay", "w", int64(most), 10, want[:most]...)
		rest := want[most:]
		w.mustGive(t, "then", "pay", "w", 32, 10, rest[:min(32, len(rest))]...)
	}
	for n := range 33 {
		w := begin(state(jobs[:n]...), 100)
		has := 0
		for i := range n {
			if i%4 == 0 || i%4 == 3 {
				has++
			}
		}
		w.mustGive(t, "fewer", "pay", "w", 32, 10, want[:has]...)
		w.mustGive(t, "none is left", "pay", "w", 32, 10)
	}
}

// P16.2: with none that are ready: EDone.
func TestActivateNone(t *testing.T) {
	for what, s := range map[string]api.State{
		"no jobs":           {},
		"of another kind":   state(with(job(1), func(j *api.Job) { j.Type = "ship" })),
		"somebody's":        state(held(1)),
		"somebody's, late":  state(had("v", 5, job(1))),
		"without retries":   state(with(job(1), func(j *api.Job) { j.Retries = 0 })),
		"retries below 0":   state(with(job(1), func(j *api.Job) { j.Retries = -1 })),
		"the worker has it": state(had("w", 500, job(1))),
	} {
		w := begin(s, 100)
		w.mustGive(t, what, "pay", "w", 32, 10)
		w.mustGive(t, what+", again", "pay", "w", 1, 1)
	}
}

// P16.2: jobs are told as Ready tells them, but for Worker and Until.
func TestActivateTells(t *testing.T) {
	j := api.Job{Key: math.MaxUint64, Token: math.MaxUint64 - 1, Type: "pay", Retries: math.MaxInt, Until: 77}
	w := begin(api.State{Jobs: []api.Job{j}}, 100)
	w.mustGive(t, "all its fields", "pay", "w", 3, 10, had("w", 110, j))
	if l := w.State().Jobs; !slices.Equal(l, []api.Job{had("w", 110, j)}) {
		t.Errorf("%+v", l)
	}
}

// P16.2, R5: the time and wait go round; no bound of the time is asked for.
func TestActivateTimes(t *testing.T) {
	for _, x := range []struct{ now, wait, until int64 }{
		{0, 1, 1}, {0, 1 << 20, 1 << 20}, {1 << 40, 1, 1<<40 + 1}, {-1, 1, 0}, {-50, 10, -40}, {math.MinInt64, 1, math.MinInt64 + 1},
		{math.MaxInt64 - 1, 1, math.MaxInt64}, {math.MaxInt64, 1, math.MinInt64}, {math.MaxInt64, 1 << 20, math.MinInt64 + 1<<20 - 1},
	} {
		w := begin(state(job(1)), x.now)
		w.mustGive(t, fmt.Sprintf("%+v", x), "pay", "w", 1, x.wait, had("w", x.until, job(1)))
	}
}

// P16.2: of several jobs of one key each is told, with an event of its own; the events
// change the first one alone, so the others stay ready.
func TestActivateOfOneKey(t *testing.T) {
	a, b, c := job(1), with(job(1), func(j *api.Job) { j.Token, j.Retries = 7, 1 }), job(2)
	w := begin(state(a, b, c), 100)
	w.mustGive(t, "all", "pay", "w", 3, 10, had("w", 110, a), had("w", 110, b), had("w", 110, c))
	if l := w.State().Jobs; !slices.Equal(l, []api.Job{had("w", 110, a), b, had("w", 110, c)}) {
		t.Errorf("%+v", l)
	}
	w.mustGive(t, "again", "pay", "v", 3, 10, had("v", 110, b))
	if l := w.State().Jobs; !slices.Equal(l, []api.Job{had("v", 110, a), b, had("w", 110, c)}) {
		t.Errorf("%+v", l)
	}
	w = begin(state(had("u", 5, a), b, c), 100)
	w.mustGive(t, "the second one", "pay", "w", 1, 10, had("w", 110, b))
}

// P16.2: keys that don't rise, jobs without a token.
func TestActivateOfOddStates(t *testing.T) {
	s := state(job(9), job(3), job(5))
	s.Tokens = nil
	w := begin(s, 100)
	w.mustGive(t, "as they stand", "pay", "w", 2, 10, had("w", 110, job(9)), had("w", 110, job(3)))
}

// R3: what is told is memory of its own, its spare room too.
func TestActivateTellsNewMemory(t *testing.T) {
	w := begin(state(job(1), job(2), job(3), job(4)), 100)
	l, err := book.Activate(w.Work, "pay", "w", 3, 10)
	if err != api.OK || len(l) != 3 {
		t.Fatal(err, l)
	}
	clear(l[:cap(l)])
	w.mustTell(t, "cleared", nil, taken(1, "w", 110), taken(2, "w", 110), taken(3, "w", 110))
}

// P16.2: events ahead, be they too many for a batch or none that may be, refuse nothing
// here.
func TestActivateBehindEvents(t *testing.T) {
	w := begin(state(job(1)), 100)
	for range 300 {
		w.Emit(api.Record{Kind: 99, A: long(5000)})
	}
	w.mustGive(t, "behind 300", "pay", "w", 1, 10, held(1))
}
