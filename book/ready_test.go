package book_test

import (
	"slices"
	"testing"

	"wherry/api"
	"wherry/book"
)

// place is where a job stands, and it.
type place struct {
	at int
	j  api.Job
}

// ready is all that a range over jobs that are ready tells.
func ready(s api.State, kind string) []place {
	var l []place
	for i, j := range book.Ready(s, kind) {
		l = append(l, place{i, j})
	}
	return l
}

func mustBeReady(t *testing.T, what string, s api.State, kind string, places ...int) {
	t.Helper()
	var want []place
	for _, i := range places {
		want = append(want, place{i, s.Jobs[i]})
	}
	if got := ready(s, kind); !slices.Equal(got, want) {
		t.Errorf("%s: %+v, want %+v", what, got, want)
	}
}

// P16.1: jobs of that Type, which nobody has, whose Retries are above 0, each with its
// place among all.
func TestReady(t *testing.T) {
	retries := func(n int, j api.Job) api.Job {
		return with(j, func(j *api.Job) { j.Retries = n })
	}
	kind := func(s string, j api.Job) api.Job {
		return with(j, func(j *api.Job) { j.Type = s })
	}
	s := state([]api.Job{
		0:  job(1),
		1:  kind("ship", job(2)),
		2:  held(3),
		3:  retries(0, job(4)),
		4:  retries(1, job(5)),
		5:  retries(-1, job(6)),
		6:  retries(-1<<63, job(7)),
		7:  retries(1<<62, job(8)),
		8:  kind("Pay", job(9)),
		9:  kind("pa", job(10)),
		10: kind("pays", job(11)),
		11: kind("", job(12)),
		12: kind("no name!", job(13)),
		13: had("", 500, job(14)),
		14: had("", -5, job(15)),
		15: had(" ", 0, job(16)),
		16: kind("ship", held(17)),
		17: kind("ship", retries(0, job(18))),
		18: job(19),
	}...)
	mustBeReady(t, "pay", s, "pay", 0, 4, 7, 13, 14, 18)
	mustBeReady(t, "ship", s, "ship", 1)
	mustBeReady(t, "a Type that is no name", s, "no name!", 12)
	mustBeReady(t, "the empty Type", s, "", 11)
	mustBeReady(t, "a Type of none", s, "pack")
	mustBeReady(t, "a beginning", s, "p")
	mustBeReady(t, "no jobs", api.State{}, "pay")
	mustBeReady(t, "no jobs, the empty Type", api.State{}, "")
}

// P16.1: the places rise, whatever the keys do; jobs of one key, and jobs without a
// token, are told as they stand.
func TestReadyOfOddStates(t *testing.T) {
	s := state(job(9), held(3), job(3), job(3), job(1), with(job(1), func(j *api.Job) { j.Token = 0 }))
	s.Tokens = nil
	mustBeReady(t, "keys that don't rise", s, "pay", 0, 2, 3, 4, 5)
}

// P16.1: it is ranged over twice, left early, and ranged over within itself.
func TestReadyAgain(t *testing.T) {
	s := state(job(1), held(2), job(3), job(4))
	all := book.Ready(s, "pay")
	want := []int{0, 2, 3}
	for n := 1; n <= 3; n++ {
		var got []int
		for i := range all {
			if got = append(got, i); len(got) == n {
				break
			}
		}
		if !slices.Equal(got, want[:n]) {
			t.Errorf("left at the place %d: %v", n, got)
		}
	}
	pairs := 0
	for i, a := range all {
		for j, b := range all {
			pairs++
			if a != s.Jobs[i] || b != s.Jobs[j] {
				t.Errorf("%+v %+v", a, b)
			}
		}
	}
	if pairs != 9 {
		t.Errorf("%d pairs", pairs)
	}
}

// P16.1: one that says it wants no more is asked no more.
func TestReadyIsLeft(t *testing.T) {
	asked := 0
	book.Ready(state(job(1), job(2), job(3)), "pay")(func(int, api.Job) bool {
		asked++
		return false
	})
	if asked != 1 {
		t.Errorf("asked %d times", asked)
	}
}

// R3: the state that is handed in is neither written into nor kept: what is told is
// told of it as it was.
func TestReadyKeepsNothing(t *testing.T) {
	jobs := append(make([]api.Job, 0, 9), job(1), job(2))
	s := state(jobs...)
	s.Jobs = jobs
	all := book.Ready(s, "pay")
	for i, j := range all {
		j.Worker = "x"
		if s.Jobs[i].Worker != "" {
			t.Errorf("%d was written into", i)
		}
	}
	s.Jobs[0], s.Jobs[1] = held(7), held(8)
	s.Jobs = append(s.Jobs, job(3))
	var got []uint64
	for _, j := range all {
		got = append(got, j.Key)
	}
	if !slices.Equal(got, []uint64{1, 2}) {
		t.Errorf("%v", got)
	}
}
