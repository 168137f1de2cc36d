package seglog_test

import (
	"slices"
	"strconv"
	"testing"

	"wherry/api"
	"wherry/disk"
	"wherry/seglog"
)

// three is a log of three segments: 1 to 3, 4 and 5, 6; of the last one nothing
// is sure.
func three(t *testing.T) (*disk.Disk, *seglog.Log) {
	t.Helper()
	d := disk.New()
	l := open(t, d, 64)
	put(t, l, 1, long(1))
	put(t, l, 2, long(2), long(3))
	put(t, l, 4, long(4), long(5))
	put(t, l, 6, long(6))
	mustHave(t, "three", d, "log-0000000001 log-0000000004 log-0000000006")
	mustStand(t, "three", l, 1, 7, 6)
	return d, l
}

// long is a record of 40 bytes that tells its position.
func long(pos uint64) string {
	s := strconv.FormatUint(pos, 10)
	return s + texts(1, 40-len(s))[0]
}

// longs are such records, from one position on up to another.
func longs(from, to uint64) []string {
	var l []string
	for pos := from; pos <= to; pos++ {
		l = append(l, long(pos))
	}
	return l
}

// some are positions and records, as From tells them.
func some(from, to uint64) []one {
	var l []one
	for pos := from; pos <= to; pos++ {
		l = append(l, one{pos, long(pos)})
	}
	return l
}

// P6.4: From and Read of positions that there are, in each segment, ahead of all
// and behind all.
func TestFrom(t *testing.T) {
	d, l := three(t)
	for _, what := range []string{"appended", "opened again"} {
		mustTell(t, what, l, 1, longs(1, 6)...)
		for pos := range uint64(10) {
			if got, want := told(l, pos), some(max(pos, 1), 6); !slices.Equal(got, want) {
				t.Errorf("%s: From(%d): %v", what, pos, got)
			}
		}
		for _, pos := range []uint64{7, 1 << 40, 1<<40 + 1, 1<<63 - 1, 1 << 63, 1<<64 - 1} {
			if got := told(l, pos); len(got) != 0 {
				t.Errorf("%s: From(%d): %v", what, pos, got)
			}
		}
		l = open(t, d, 64)
	}
}

// P6.4: a range may be left, ranged over several times, and within itself.
func TestFromLeft(t *testing.T) {
	_, l := three(t)
	r := l.From(2)
	for n := 1; n <= 6; n++ {
		var got []one
		for pos, s := range r {
			got = append(got, one{pos, s})
			if len(got) == n {
				break
			}
		}
		if want := some(2, min(uint64(n)+1, 6)); !slices.Equal(got, want) {
			t.Errorf("left behind %d: %v", n, got)
		}
	}
	pairs := 0
	for a := range r {
		for b := range r {
			if a < 2 || b < 2 || a > 6 || b > 6 {
				t.Errorf("%d %d", a, b)
			}
			pairs++
		}
	}
	if pairs != 25 {
		t.Errorf("%d pairs", pairs)
	}
}

// P6.4, R3: a range goes over what there is when it begins, not when it was made.
func TestFromMadeAhead(t *testing.T) {
	d := disk.New()
	l := open(t, d, 64)
	r := l.From(2)
	for range r {
		t.Error("there is none")
	}
	for pos := uint64(1); pos <= 6; pos++ {
		put(t, l, pos, long(pos))
	}
	got := func() []one {
		var got []one
		for pos, s := range r {
			got = append(got, one{pos, s})
		}
		return got
	}
	if got := got(); !slices.Equal(got, some(2, 6)) {
		t.Errorf("appended: %v", got)
	}
	must(t, "Drop", l.Drop(5), api.OK)
	if got := got(); !slices.Equal(got, some(5, 6)) {
		t.Errorf("dropped: %v", got)
	}
}

// P6.4: what is appended while a range goes on is not told by it, whether to the
// last segment or to new ones.
func TestFromWhileAppended(t *testing.T) {
	for _, size := range []int{64, 1000, 1 << 16} {
		l := open(t, disk.New(), size)
		put(t, l, 1, long(1), long(2))
		put(t, l, 3, long(3))
		var got []one
		for pos, s := range l.From(1) {
			got = append(got, one{pos, s})
			put(t, l, l.Next(), long(l.Next()))
			put(t, l, l.Next(), long(l.Next()), long(l.Next()+1))
		}
		if !slices.Equal(got, some(1, 3)) {
			t.Errorf("size %d: %v", size, got)
		}
		mustTell(t, "then", l, 1, longs(1, 12)...)
		for pos := range l.From(12) {
			if pos != 12 || l.Next() > 20 {
				t.Fatalf("size %d: %d", size, pos)
			}
			put(t, l, l.Next(), "more")
		}
	}
}

// P6.4: what is dropped while a range goes on is told by it still; to read it is
// refused.
func TestFromWhileDropped(t *testing.T) {
	d, l := three(t)
	var got []one
	for pos, s := range l.From(0) {
		if pos == 1 {
			must(t, "Drop", l.Drop(99), api.OK)
			mustHave(t, "dropped", d, "log-0000000006")
			mustMiss(t, "dropped", l, 1, 2, 3, 4, 5)
			put(t, l, 7, long(7), long(8))
			put(t, l, 9, long(9))
			must(t, "Drop", l.Drop(9), api.OK)
		}
		got = append(got, one{pos, s})
	}
	if !slices.Equal(got, some(1, 6)) {
		t.Errorf("%v", got)
	}
	mustTell(t, "then", l, 9, long(9))
}

// P6.4: a range that begins within another tells what there is then.
func TestFromWithin(t *testing.T) {
	l := open(t, disk.New(), 64)
	for pos := uint64(1); pos <= 4; pos++ {
		put(t, l, pos, long(pos))
	}
	for pos := range l.From(1) {
		put(t, l, l.Next(), long(l.Next()))
		must(t, "Drop", l.Drop(pos), api.OK)
		if got, want := told(l, 0), some(l.First(), pos+4); !slices.Equal(got, want) {
			t.Errorf("at %d: %v", pos, got)
		}
	}
}

// P6.5: segments are dropped whose records are all below, the last one never.
func TestDrop(t *testing.T) {
	for _, x := range []struct {
		below, first uint64
		files        string
	}{
		{0, 1, "log-0000000001 log-0000000004 log-0000000006"},
		{1, 1, "log-0000000001 log-0000000004 log-0000000006"},
		{3, 1, "log-0000000001 log-0000000004 log-0000000006"},
		{4, 4, "log-0000000004 log-0000000006"},
		{5, 4, "log-0000000004 log-0000000006"},
		{6, 6, "log-0000000006"},
		{7, 6, "log-0000000006"},
		{8, 6, "log-0000000006"},
		{1<<64 - 1, 6, "log-0000000006"},
	} {
		d, l := three(t)
		what := "below " + strconv.FormatUint(x.below, 10)
		for range 2 {
			must(t, what, l.Drop(x.below), api.OK)
			mustHave(t, what, d, x.files)
			mustTell(t, what, l, x.first, longs(x.first, 6)...)
			mustStand(t, what, l, x.first, 7, 6)
		}
		put(t, l, 7, long(7))
		must(t, what, l.Drop(4), api.OK)
		l = open(t, d, 64)
		mustTell(t, what, l, max(x.first, 4), longs(max(x.first, 4), 7)...)
	}
}

// P6.5: where there is no segment, or one, Drop does nothing: no act.
func TestDropNone(t *testing.T) {
	d := disk.New()
	l := open(t, d, 64)
	d.Power(0)
	must(t, "no segment", l.Drop(99), api.OK)
	mustStand(t, "no segment", l, 1, 1, 1)
	d.Power(1)
	put(t, l, 1, texts(2, 50)...)
	must(t, "one", l.Drop(99), api.OK)
	mustTell(t, "one", l, 1, texts(2, 50)...)
}

// P6.4, P6.5: where the last segment has no records, all others may be dropped:
// the first record is the next one then.
func TestDropToEmpty(t *testing.T) {
	d, l := three(t)
	d.Crash(nil)
	l = open(t, d, 64)
	mustTell(t, "crashed", l, 1, longs(1, 5)...)
	must(t, "Drop", l.Drop(6), api.OK)
	mustHave(t, "dropped", d, "log-0000000006")
	mustTell(t, "dropped", l, 6)
	mustStand(t, "dropped", l, 6, 6, 6)
	l = open(t, d, 64)
	mustStand(t, "opened again", l, 6, 6, 6)
	put(t, l, 6, "again")
	mustTell(t, "appended", l, 6, "again")
}
