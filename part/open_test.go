package part_test

import (
	"maps"
	"math"
	"slices"
	"strings"
	"testing"

	"wherry/api"
	"wherry/disk"
	"wherry/keep"
	"wherry/part"
	"wherry/seglog"
	"wherry/store"
)

// mustNotOpen holds Open of the partition 1 of two to an error, and the disk to what it
// had.
func mustNotOpen(t *testing.T, what string, d *disk.Disk, want api.Errno) {
	t.Helper()
	before := whole(d)
	if p, err := part.Open(d, 1, 2, 4096, 100); p != nil || err != want {
		t.Fatalf("%s: %v %d, want none and %d", what, p, err, want)
	}
	must(t, what+": the disk", whole(d), before)
}

// torn makes a disk one that Open has to write to: behind the last segment's frames
// stands a piece that isn't safe, and there are files that no checkpoint has.
func torn(t *testing.T, d *disk.Disk) {
	t.Helper()
	other := func(s string) bool { return !strings.HasPrefix(s, "log-") }
	last := slices.Max(slices.DeleteFunc(d.Names(), other))
	must(t, "a piece", d.Append(last, "xyz"), api.OK)
	must(t, "a stray run", d.Append("run-0000000077", "xyz"), api.OK)
	must(t, "a stray manifest", d.Append("man-0000000077", "xyz"), api.OK)
}

// rowsOf are a state's.
func rowsOf(s api.State) map[string]string { return maps.Collect(keep.Rows(s)) }

// six are the records of two commands and what became of them: 1 a CDeploy, 2 its
// EDeployed, 3 and 4 two CCreates, 5 and 6 what two Refusals tell of them.
func six(t *testing.T) []api.Record {
	return []api.Record{
		deploy(line()),
		{Class: api.Event, Kind: api.EDeployed, From: 1, A: "line", B: line()},
		create("no"), create("no"),
		{Class: api.Refusal, Kind: api.CCreate, From: 3, N: 5},
		{Class: api.Refusal, Kind: api.CCreate, From: 4, N: 5},
	}
}

// P18.1: parts, id and now at their bounds, and on both sides of them.
func TestOpenBounds(t *testing.T) {
	for _, x := range []struct {
		id, parts int
		now       int64
		want      api.Errno
	}{
		{0, 1, 0, api.OK}, {0, 4, 0, api.OK}, {3, 4, 0, api.OK}, {0, 1, 1 << 40, api.OK}, {1, 2, 7, api.OK},
		{0, 0, 0, api.ErrArg}, {0, 5, 0, api.ErrArg}, {0, -1, 0, api.ErrArg}, {0, math.MinInt, 0, api.ErrArg}, {0, math.MaxInt, 0, api.ErrArg},
		{-1, 1, 0, api.ErrArg}, {1, 1, 0, api.ErrArg}, {4, 4, 0, api.ErrArg}, {2, 2, 0, api.ErrArg}, {math.MinInt, 4, 0, api.ErrArg}, {math.MaxInt, 4, 0, api.ErrArg},
		{0, 1, -1, api.ErrArg}, {0, 1, 1<<40 + 1, api.ErrArg}, {0, 1, math.MinInt64, api.ErrArg}, {0, 1, math.MaxInt64, api.ErrArg},
	} {
		d := disk.New()
		p, err := part.Open(d, x.id, x.parts, 64, x.now)
		if err != x.want || (p != nil) != (err == api.OK) {
			t.Fatalf("%+v: %v %d", x, p, err)
		}
		if err == api.OK {
			must(t, "the time", p.Now(), x.now)
		}
		must(t, "files", len(d.Names()), 0)
	}
}

// P18.1: what may not be is told ahead of the disk's errors; the log's ahead of the
// store's.
func TestOpenOrder(t *testing.T) {
	off := disk.New()
	off.Power(0)
	off.Append("x", "")
	for _, x := range []struct {
		d           *disk.Disk
		id, segment int
		want        api.Errno
	}{
		{nil, 0, 64, api.ErrArg}, {nil, 0, 63, api.ErrArg}, {nil, 2, 64, api.ErrArg},
		{off, 0, 64, api.ErrDead}, {off, 2, 64, api.ErrArg}, {off, 0, 63, api.ErrArg}, {off, 0, 1<<16 + 1, api.ErrArg},
		{disk.New(), 0, 64, api.OK}, {disk.New(), 0, 1 << 16, api.OK}, {disk.New(), 0, 63, api.ErrArg}, {disk.New(), 0, 1<<16 + 1, api.ErrArg},
	} {
		if p, err := part.Open(x.d, x.id, 2, x.segment, 0); err != x.want || (p != nil) != (err == api.OK) {
			t.Fatalf("%+v: %v %d", x, p, err)
		}
	}
}

// P18.1: of an empty disk: the empty state, no records, nothing waits, nothing is
// written.
func TestOpenEmpty(t *testing.T) {
	d := disk.New()
	p := open(t, d)
	mustBe(t, "empty", p, api.State{})
	must(t, "Now", p.Now(), 100)
	must(t, "First", p.First(), 1)
	must(t, "Next", p.Next(), 1)
	must(t, "Sure", p.Sure(), 1)
	replies, answers := flush(t, p)
	mustReply(t, "Flush", replies)
	mustSend(t, "Flush", answers)
	mustSend(t, "Retry", p.Retry())
	is, err := p.Step()
	must(t, "Step", is, false)
	must(t, "Step", err, api.OK)
	must(t, "the disk", whole(d), "")
}

// P18.1: the log is refused: nothing is written, though the store has files to delete.
func TestOpenLogRefused(t *testing.T) {
	d := disk.New()
	lay(t, d, 64, []string{strings.Repeat("a", 99)}, []string{"b"})
	must(t, "a piece within", d.Append("log-0000000001", "xyz"), api.OK)
	torn(t, d)
	mustNotOpen(t, "a piece within the log", d, api.ErrForm)
}

// P18.1: the store has no keys: the log tells all.
func TestOpenLogAlone(t *testing.T) {
	d := disk.New()
	l := six(t)
	lay(t, d, 64, bytesOf(t, l[0]), bytesOf(t, l[1:]...))
	p := open(t, d)
	mustBe(t, "the log alone", p, folded(l))
	must(t, "Pos", p.State().Pos, 6)
	must(t, "Done", p.State().Done, 4)
	must(t, "Sure", p.Sure(), 7)
}

// P18.1: of each checkpoint the records behind it make the state that all come to; those
// that it tells aren't asked for.
func TestOpenCheckpoint(t *testing.T) {
	l := six(t)
	for n := range len(l) + 1 {
		d := disk.New()
		batches := [][]string{}
		for i, r := range l {
			b := bytesOf(t, r)
			if i < n {
				b = []string{"none"}
			}
			batches = append(batches, b)
		}
		lay(t, d, 64, batches...)
		s := folded(l[:n])
		keepState(t, d, s.Pos, rowsOf(s))
		mustBe(t, "a checkpoint", open(t, d), folded(l))
	}
}

// P18.1: rows that are no state's; a state whose Pos isn't the tag: nothing is written.
func TestOpenStoreRefused(t *testing.T) {
	three := folded(six(t)[:3])
	for what, x := range map[string]struct {
		tag  uint64
		rows map[string]string
		want api.Errno
	}{
		"a state":             {3, rowsOf(three), api.OK},
		"no rows, tag 0":      {0, nil, api.OK},
		"no rows, tag 1":      {1, nil, api.ErrForm},
		"a tag below":         {2, rowsOf(three), api.ErrForm},
		"a tag above":         {4, rowsOf(three), api.ErrForm},
		"no tag":              {0, rowsOf(three), api.ErrForm},
		"the empty state's":   {0, rowsOf(api.State{}), api.OK},
		"a row more":          {3, with(rowsOf(three), func(m *map[string]string) { (*m)["x"] = "x" }), api.ErrForm},
		"no row of the whole": {3, with(rowsOf(three), func(m *map[string]string) { delete(*m, "a") }), api.ErrForm},
		"a row alone":         {0, map[string]string{"": ""}, api.ErrForm},
	} {
		d := disk.New()
		lay(t, d, 64, bytesOf(t, six(t)[:3]...), bytesOf(t, six(t)[3:]...))
		keepState(t, d, x.tag, x.rows)
		torn(t, d)
		if x.want != api.OK {
			mustNotOpen(t, what, d, x.want)
			continue
		}
		mustBe(t, what, open(t, d), folded(six(t)))
	}
}

// P18.1: the log's First is at Pos and 1 at most, its Next there at least; else nothing is
// written.
func TestOpenLogElsewhere(t *testing.T) {
	for _, x := range []struct {
		pos, first uint64
		records    int
		want       api.Errno
	}{
		{5, 6, 2, api.OK}, {5, 6, 0, api.OK}, {5, 1, 5, api.OK}, {5, 1, 6, api.OK}, {5, 4, 2, api.OK}, {5, 5, 9, api.OK}, {0, 1, 0, api.OK}, {0, 1, 4, api.OK},
		{5, 7, 2, api.ErrForm}, {5, 7, 0, api.ErrForm}, {0, 2, 1, api.ErrForm}, {5, 1, 4, api.ErrForm}, {5, 4, 1, api.ErrForm}, {5, 1, 0, api.ErrForm},
		{1 << 40, 1<<40 + 1, 0, api.OK}, {1 << 40, 1 << 40, 1, api.OK}, {1<<40 + 1, 1<<40 + 1, 0, api.ErrForm},
		{math.MaxUint64, 1, 3, api.ErrForm}, {math.MaxUint64 - 1, 1, 3, api.ErrForm},
	} {
		d := disk.New()
		segment := seglogName(x.first)
		if x.records > 0 || x.first > 1 {
			must(t, "a segment", d.Append(segment, ""), api.OK)
		}
		for range x.records {
			lay(t, d, 4096, bytesOf(t, create("no")))
		}
		keepState(t, d, x.pos, rowsOf(api.State{Pos: x.pos, Made: 7}))
		if len(d.Names()) > 2 {
			must(t, "a piece", d.Append(segment, "xyz"), api.OK)
		}
		must(t, "a stray run", d.Append("run-0000000077", "xyz"), api.OK)
		if x.want != api.OK {
			mustNotOpen(t, "elsewhere", d, x.want)
			continue
		}
		p := open(t, d)
		last := max(x.pos, x.first+uint64(x.records)-1)
		mustBe(t, "there", p, api.State{Pos: last, Made: 7})
		must(t, "First", p.First(), x.first)
		must(t, "Next", p.Next(), last+1)
	}
}

// seglogName is the name of the segment that begins at a position.
func seglogName(pos uint64) string {
	s := ""
	for n := pos; n > 0; n /= 10 {
		s = string(rune('0'+n%10)) + s
	}
	return "log-" + strings.Repeat("0", max(0, 10-len(s))) + s
}

// P18.1: a record that is none, behind the checkpoint: nothing is written. One that it
// tells isn't read.
func TestOpenNoRecord(t *testing.T) {
	l := six(t)
	s := folded(l[:3])
	for at := range l {
		batch := bytesOf(t, l...)
		batch[at] = batch[at][:len(batch[at])-1]
		d := disk.New()
		lay(t, d, 64, batch[:4], batch[4:])
		keepState(t, d, 3, rowsOf(s))
		torn(t, d)
		if at >= 3 {
			mustNotOpen(t, "none", d, api.ErrForm)
			continue
		}
		mustBe(t, "none, but of no weight", open(t, d), folded(l))
	}
}

// P18.1: what Open writes where nothing is wrong: the log's last segment is cut and
// synced, the store's stray files go. Of a disk of which the power ends there: ErrDead, it
// is off, and Open again does the rest.
func TestOpenWrites(t *testing.T) {
	d := disk.New()
	l := six(t)
	lay(t, d, 4096, bytesOf(t, l[:3]...))
	keepState(t, d, 3, rowsOf(folded(l[:3])))
	clean := whole(d)
	torn(t, d)
	for acts := range 4 {
		x := d.Clone()
		x.Power(acts)
		if p, err := part.Open(x, 1, 2, 4096, 100); p != nil || err != api.ErrDead || !x.Off() {
			t.Fatalf("%d acts: %v %d", acts, p, err)
		}
		x.Crash(nil)
		mustBe(t, "opened again", open(t, x), folded(l[:3]))
		must(t, "the disk", whole(x), clean)
	}
	d.Power(4)
	p := open(t, d)
	must(t, "the disk", whole(d), clean)
	_, err := p.Ask(create("no"))
	must(t, "Ask", err, api.ErrDead)
}

// P18.1: a faulty state of a disk whose power would end in opening the log, or the store:
// their error is told; else that of the state, with power for all their acts.
func TestOpenFaultAndPower(t *testing.T) {
	d := disk.New()
	lay(t, d, 4096, bytesOf(t, six(t)...))
	keepState(t, d, 4, rowsOf(api.State{Pos: 3}))
	torn(t, d)
	for acts, want := range []api.Errno{api.ErrDead, api.ErrDead, api.ErrDead, api.ErrDead, api.ErrForm, api.ErrForm} {
		x := d.Clone()
		x.Power(acts)
		p, err := part.Open(x, 1, 2, 4096, 100)
		if p != nil || err != want || x.Off() != (want == api.ErrDead) {
			t.Fatalf("%d acts: %v %d", acts, p, err)
		}
		if want == api.ErrForm {
			must(t, "the disk", whole(x), whole(d))
		}
	}
}

// P18.1, P18.6: the store is one of blocks of 1024 bytes and of 4 runs, the log of the
// segments that were told: files and bytes are those of such ones to which the same was
// done.
func TestOpenSizes(t *testing.T) {
	d, want := disk.New(), disk.New()
	p, err := part.Open(d, 0, 1, 300, 0)
	must(t, "Open", err, api.OK)
	l, err := seglog.Open(want, "log", 300)
	must(t, "the log", err, api.OK)
	s, err := store.Open(want, 1024, 4)
	must(t, "the store", err, api.OK)
	for i := range 12 {
		r := publish(strings.Repeat("k", 300), string(rune('a'+i)), 50)
		pos := do(t, p, r)
		for _, r := range []api.Record{r, with(r, func(r *api.Record) { r.Class, r.Kind, r.From, r.Key = api.Event, api.EPublished, pos, uint64(i+1) })} {
			_, err := l.Append(bytesOf(t, r))
			must(t, "Append", err, api.OK)
		}
		must(t, "Save", p.Save(), api.OK)
		must(t, "the log's flush", l.Flush(), api.OK)
		must(t, "the changes", s.Apply(keep.Changes(s.From(""), p.State())), api.OK)
		must(t, "a checkpoint", s.Save(p.State().Pos), api.OK)
		must(t, "the disk", whole(d), whole(want))
	}
}
