package book_test

import (
	"fmt"
	"math"
	"slices"
	"testing"

	"wherry/api"
)

// P16.3: Fail gives a job back with these retries, from 0 to 9; with 0 its token is
// stuck.
func TestFail(t *testing.T) {
	for retries := range int64(10) {
		for _, was := range []int{-1, 0, 1, 3, 9, 1000} {
			j := with(held(5), func(j *api.Job) { j.Retries = was })
			w := begin(state(held(4), j, held(6)), 100)
			want := []api.Record{back(5, retries)}
			if retries == 0 {
				want = append(want, stuck(105))
			}
			w.mustDo(t, fmt.Sprint(retries), w.fail(5, retries), want...)
			s := w.State()
			free := with(job(5), func(j *api.Job) { j.Retries = int(retries) })
			if !slices.Equal(s.Jobs, []api.Job{held(4), free, held(6)}) {
				t.Errorf("%d: %+v", retries, s.Jobs)
			}
			for i, x := range s.Tokens {
				if (x.Stuck == "job") != (retries == 0 && i == 1) {
					t.Errorf("%d: %+v", retries, x)
				}
			}
		}
	}
}

// P16.3: Fail's errors, the first one that is told.
func TestFailErrors(t *testing.T) {
	w := begin(state(job(1), held(2), with(job(3), func(j *api.Job) { j.Until = 500 })), 100)
	for _, retries := range []int64{math.MinInt64, -1, 10, 11, 1 << 32, math.MaxInt64} {
		for _, key := range []uint64{0, 1, 2, 3, 77} {
			w.mustRefuse(t, fmt.Sprint(retries, " of ", key), w.fail(key, retries), api.ErrArg)
		}
	}
	for _, retries := range []int64{0, 1, 9} {
		for _, key := range []uint64{0, 4, 102, math.MaxUint64} {
			w.mustRefuse(t, fmt.Sprint("no job ", key), w.fail(key, retries), api.ErrNone)
		}
		w.mustRefuse(t, "nobody has it", w.fail(1, retries), api.ErrState)
		w.mustRefuse(t, "nobody has it, until 500", w.fail(3, retries), api.ErrState)
	}
	none := begin(api.State{}, 100)
	none.mustRefuse(t, "an empty state", none.fail(0, 3), api.ErrNone)
	w.mustDo(t, "once", w.fail(2, 2), back(2, 2))
	w.mustRefuse(t, "twice", w.fail(2, 2), api.ErrState)
}

// P16.3: Fail asks nobody for the time.
func TestFailAtAnyTime(t *testing.T) {
	for _, now := range []int64{math.MinInt64, 0, 109, 110, 111, math.MaxInt64} {
		for _, until := range []int64{math.MinInt64, -1, 0, 110, math.MaxInt64} {
			w := begin(state(had("w", until, job(5))), now)
			w.mustDo(t, fmt.Sprint("at ", now, " until ", until), w.fail(5, 1), back(5, 1))
		}
	}
}

// P16.3: a job whose token isn't there is given back, and its token told to be stuck,
// all the same; of several jobs, or tokens, of one key the first one counts.
func TestFailOfOddStates(t *testing.T) {
	s := state(held(5))
	s.Tokens = nil
	w := begin(s, 100)
	w.mustDo(t, "no token", w.fail(5, 0), back(5, 0), stuck(105))

	other := with(held(5), func(j *api.Job) { j.Token, j.Retries = 7, 1 })
	w = begin(state(held(5), other), 100)
	w.mustDo(t, "the first one", w.fail(5, 0), back(5, 0), stuck(105))
	w.mustRefuse(t, "nobody has the first one", w.fail(5, 1), api.ErrState)
	w = begin(state(other, job(5)), 100)
	w.mustDo(t, "the other one", w.fail(5, 0), back(5, 0), stuck(7))
	w = begin(state(job(5), other), 100)
	w.mustRefuse(t, "the second one alone", w.fail(5, 0), api.ErrState)

	s = state(held(5))
	s.Tokens = append(s.Tokens, s.Tokens[0])
	s.Tokens[0].Stuck = "vars"
	w = begin(s, 100)
	w.mustDo(t, "a token that is stuck", w.fail(5, 0), back(5, 0), stuck(105))
	if l := w.State().Tokens; l[0].Stuck != "job" || l[1].Stuck != "" {
		t.Errorf("%+v", l)
	}
	w = begin(state(with(held(5), func(j *api.Job) { j.Type = "" })), 100)
	w.mustDo(t, "of no Type", w.fail(5, 4), back(5, 4))
}

// P16.3: Late gives a job back at its Until and above it, its retries as they are,
// whatever they are; nobody is stuck.
func TestLate(t *testing.T) {
	for _, x := range []struct {
		until, now int64
		want       api.Errno
	}{
		{110, 109, api.ErrState}, {110, 110, api.OK}, {110, 111, api.OK}, {110, 0, api.ErrState}, {110, -110, api.ErrState},
		{0, 0, api.OK}, {0, -1, api.ErrState}, {-5, -6, api.ErrState}, {-5, -5, api.OK}, {-5, 0, api.OK}, {-5, 100, api.OK},
		{math.MinInt64, math.MinInt64, api.OK}, {math.MinInt64, math.MaxInt64, api.OK}, {math.MaxInt64, math.MaxInt64 - 1, api.ErrState}, {math.MaxInt64, math.MaxInt64, api.OK}, {math.MaxInt64, math.MinInt64, api.ErrState},
	} {
		for _, retries := range []int{3, 1, 0, -1, 9, 1 << 40} {
			j := with(had("w", x.until, job(5)), func(j *api.Job) { j.Retries = retries })
			w := begin(state(held(4), j), x.now)
			what := fmt.Sprintf("%+v, %d retries", x, retries)
			if x.want != api.OK {
				w.mustRefuse(t, what, w.late(5), x.want)
				continue
			}
			w.mustDo(t, what, w.late(5), back(5, int64(retries)))
			if l := w.State().Jobs; !slices.Equal(l, []api.Job{held(4), had("", 0, j)}) {
				t.Errorf("%s: %+v", what, l)
			}
			w.mustRefuse(t, what+", again", w.late(5), api.ErrState)
		}
	}
}

// P16.3: Late's errors: no job; nobody has it, whatever its Until is.
func TestLateErrors(t *testing.T) {
	w := begin(state(job(1), had("", 50, job(2)), had("", 500, job(3))), 100)
	for _, key := range []uint64{0, 4, 101, math.MaxUint64} {
		w.mustRefuse(t, fmt.Sprint("no job ", key), w.late(key), api.ErrNone)
	}
	for _, key := range []uint64{1, 2, 3} {
		w.mustRefuse(t, fmt.Sprint("nobody has ", key), w.late(key), api.ErrState)
	}
	none := begin(api.State{}, 100)
	none.mustRefuse(t, "an empty state", none.late(0), api.ErrNone)
}

// P16.3: of several jobs of one key the first one counts; its token needn't be there.
func TestLateOfOddStates(t *testing.T) {
	s := state(had("w", 200, job(5)), had("v", 50, job(5)))
	s.Tokens = nil
	w := begin(s, 100)
	w.mustRefuse(t, "the first one isn't late", w.late(5), api.ErrState)
	w = begin(s, 200)
	w.mustDo(t, "it is", w.late(5), back(5, 3))
	w.mustRefuse(t, "nobody has it", w.late(5), api.ErrState)
}
