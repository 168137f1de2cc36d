package part_test

import (
	"math"
	"slices"
	"strings"
	"testing"

	"wherry/api"
	"wherry/disk"
	"wherry/fold"
	"wherry/keep"
	"wherry/part"
	"wherry/seglog"
	"wherry/store"
)

// mustKeep holds the checkpoint of a disk, crashed with nothing kept, against a state.
func mustKeep(t *testing.T, what string, d *disk.Disk, want api.State) {
	t.Helper()
	d = d.Clone()
	d.Crash(nil)
	s, err := store.Open(d, 1024, 4)
	must(t, what, err, api.OK)
	got, err := keep.Read(s.From(""))
	must(t, what, err, api.OK)
	must(t, what+": the tag", s.Tag(), want.Pos)
	if !fold.Same(got, want) {
		t.Fatalf("%s: kept\n%+v, want\n%+v", what, got, want)
	}
}

// some are commands of which each is done, and leaves a state unlike the one ahead.
func some() []api.Record {
	return []api.Record{
		deploy(line()), create("line", num("a", 1)), deploy(catch()), create("catch", text("s", "k")), publish("k", "x", 50, num("m", 1)),
		with(at(api.COpen, key(5), 1, key(4)), func(r *api.Record) { r.A, r.B = "paid", "k" }),
		activate("w", 1, 10), at(api.CMatch, key(5), 1, key(6), num("m", 1)), complete(key(3)),
	}
}

// P18.6: Save makes all of the log sure, and the state a checkpoint whose tag is its Pos;
// what waits does so still.
func TestSave(t *testing.T) {
	d := disk.New()
	p := open(t, d)
	must(t, "Save of the empty state", p.Save(), api.OK)
	mustKeep(t, "the empty state", d, api.State{})
	for i, r := range some() {
		do(t, p, r)
		ask(t, p, create("no"))
		s := p.State()
		must(t, "Save", p.Save(), api.OK)
		mustBe(t, "saved", p, s)
		mustKeep(t, "saved", d, s)
		must(t, "Sure", p.Sure(), p.Next())
		must(t, "Save again", p.Save(), api.OK)
		mustKeep(t, "saved again", d, s)
		step(t, p)
		must(t, "Pos", p.State().Pos, p.Next()-1)
		if replies, _ := flush(t, p); len(replies) == 0 {
			t.Errorf("%d: no replies", i)
		}
	}
}

// P18.6: what a state has no more is gone of the store, too.
func TestSaveGone(t *testing.T) {
	d := disk.New()
	p := open(t, d)
	do(t, p, deploy(line()))
	do(t, p, create("line"))
	must(t, "Save", p.Save(), api.OK)
	do(t, p, of(api.CCancel, key(1)))
	must(t, "Save", p.Save(), api.OK)
	d.Crash(nil)
	p = open(t, d)
	if s := p.State(); len(s.Insts)+len(s.Tokens)+len(s.Jobs) != 0 || len(s.Procs) != 1 || s.Made != 3 {
		t.Errorf("%+v", s)
	}
}

// P18.6: of a state that may not be: ErrFull; the log is flushed, and the store as it was.
func TestSaveFull(t *testing.T) {
	d := disk.New()
	l := []api.Record{create("line"), {Class: api.Event, Kind: api.EEntered, From: 1, Key: 1, Key2: 1, N: 30001}}
	lay(t, d, 4096, bytesOf(t, l...))
	p := open(t, d)
	ask(t, p, create("no"))
	for range 2 {
		must(t, "Save", p.Save(), api.ErrFull)
		must(t, "Sure", p.Sure(), 4)
		must(t, "files", len(d.Names()), 1)
	}
	l = append(l, with(create("no"), func(r *api.Record) { r.Time = 100 }))
	mustBe(t, "as it was", p, folded(l))
	d.Power(0)
	must(t, "nothing to flush", p.Save(), api.ErrFull)
	mustNotAsk(t, "no power", p, create("no"), api.ErrDead)
}

// P18.6: the log's error is told ahead of the state's.
func TestSaveOrder(t *testing.T) {
	d := disk.New()
	lay(t, d, 4096, bytesOf(t, create("line"), api.Record{Class: api.Event, Kind: api.EEntered, From: 1, Key: 1, Key2: 1, N: 30001}))
	p := open(t, d)
	ask(t, p, create("no"))
	d.Power(0)
	must(t, "Save", p.Save(), api.ErrDead)
	must(t, "Sure", p.Sure(), 3)
}

// P18.6: at each act at which the power goes, Save tells so, nothing of the partition has
// changed, and behind the crash the same state is there, whatever was kept; with power
// again, the same Save is done.
func TestSavePower(t *testing.T) {
	d := disk.New()
	p := open(t, d)
	var l []api.Record
	ends := 0
	for i, r := range some() {
		do(t, p, r)
		for acts := 0; ; acts++ {
			s := p.State()
			d.Power(acts)
			err := p.Save()
			mustBe(t, "as it was", p, s)
			if err == api.OK {
				break
			}
			ends++
			must(t, "Save", err, api.ErrDead)
			l = records(t, p)
			for _, kept := range []int{0, 1, 9, api.MaxFile} {
				x := d.Clone()
				x.Crash(slices.Repeat([]int{kept}, 20))
				q := open(t, x)
				mustBe(t, "crashed", q, folded(l[:q.Next()-1]))
				if acts > 0 {
					must(t, "the log was flushed", q.Next(), p.Next())
				}
			}
			d.Crash(slices.Repeat([]int{api.MaxFile}, 20))
		}
		if d.Power(-1); i%2 == 0 {
			must(t, "Save again", p.Save(), api.OK)
		}
	}
	if ends < 40 {
		t.Errorf("the power went %d times", ends)
	}
}

// P18.6: a disk without room for the store's files: its error; the partition goes on, and
// the next Save is of all that has become of it.
func TestSaveNoRoom(t *testing.T) {
	d := disk.New()
	p := open(t, d)
	do(t, p, deploy(line()))
	fill(d)
	must(t, "Save", p.Save(), api.ErrFull)
	must(t, "Sure", p.Sure(), p.Next())
	do(t, p, create("line"))
	d.Delete("x7")
	must(t, "room for one file alone", p.Save(), api.ErrFull)
	do(t, p, complete(key(3)))
	d.Delete("x8")
	must(t, "room", p.Save(), api.OK)
	mustKeep(t, "saved", d, folded(records(t, p)))
}

// bulk is a partition whose segments end with each batch, behind so many commands.
func bulk(t *testing.T, d *disk.Disk, commands int) *part.Part {
	t.Helper()
	p, err := part.Open(d, 1, 2, 64, 100)
	must(t, "Open", err, api.OK)
	more(t, p, commands)
	return p
}

func more(t *testing.T, p *part.Part, commands int) {
	t.Helper()
	for range commands {
		do(t, p, create("no", text("s", strings.Repeat("x", 99))))
	}
}

// P18.6: ahead of any checkpoint, and behind the first, Trim drops nothing, whatever is
// acknowledged.
func TestTrimEarly(t *testing.T) {
	d := disk.New()
	p := bulk(t, d, 9)
	for range 2 {
		for _, ack := range []uint64{0, 1, 9, 1 << 40, math.MaxUint64 - 1, math.MaxUint64} {
			must(t, "Trim", p.Trim(ack), api.OK)
			must(t, "First", p.First(), 1)
		}
		must(t, "Save", p.Save(), api.OK)
	}
}

// P18.6: Trim drops what is below the lesser one of what is acknowledged, and of the
// checkpoint ahead of the last one; as much as the log's Drop does. (A segment ends with
// the command ahead of the checkpoint, or goes on.)
func TestTrim(t *testing.T) {
	for ack := range uint64(60) {
		d := disk.New()
		p := bulk(t, d, 5)
		if ack%2 == 0 {
			ask(t, p, create("no", text("s", strings.Repeat("x", 99))))
		}
		must(t, "Save", p.Save(), api.OK)
		older := p.State().Pos
		more(t, p, 3)
		must(t, "Save", p.Save(), api.OK)
		more(t, p, 3)
		x := d.Clone()
		want, err := seglog.Open(x, "log", 64)
		must(t, "the log", err, api.OK)
		must(t, "Drop", want.Drop(min(ack/2, older)+1), api.OK)
		s, l := p.State(), records(t, p)
		must(t, "Trim", p.Trim(ack/2), api.OK)
		must(t, "First", p.First(), want.First())
		mustBe(t, "trimmed", p, s)
		mustTell(t, "trimmed", p, p.First()-1, l[p.First()-1:]...)
		must(t, "the files", strings.Join(d.Names(), " "), strings.Join(x.Names(), " "))
		flush(t, p)
		d.Crash(nil)
		mustBe(t, "opened again", open(t, d), s)
	}
}

// P18.6: R5: the greatest position and 1 is 0: nothing is below that.
func TestTrimRound(t *testing.T) {
	p := bulk(t, disk.New(), 5)
	for range 2 {
		must(t, "Save", p.Save(), api.OK)
		must(t, "Trim", p.Trim(math.MaxUint64), api.OK)
		must(t, "First", p.First(), 1)
	}
	must(t, "Trim", p.Trim(math.MaxUint64-1), api.OK)
	if p.First() == 1 {
		t.Error("nothing was dropped")
	}
}

// P18.6: behind a crash no checkpoint is ahead: Trim drops nothing until there is one.
func TestTrimBehindCrash(t *testing.T) {
	d := disk.New()
	p := bulk(t, d, 5)
	must(t, "Save", p.Save(), api.OK)
	must(t, "Save", p.Save(), api.OK)
	d.Crash(nil)
	p = openAt(t, d, 100)
	must(t, "Trim", p.Trim(1<<40), api.OK)
	must(t, "First", p.First(), 1)
	must(t, "Save", p.Save(), api.OK)
	must(t, "Trim", p.Trim(1<<40), api.OK)
	if p.First() == 1 {
		t.Error("nothing was dropped")
	}
}

// P18.6: the power goes at each act of a Trim: what was deleted stays so, and the rest goes
// with the next one.
func TestTrimPower(t *testing.T) {
	d := disk.New()
	p := bulk(t, d, 5)
	must(t, "Save", p.Save(), api.OK)
	must(t, "Save", p.Save(), api.OK)
	s := p.State()
	for acts := 0; ; acts++ {
		d.Power(acts)
		first := p.First()
		err := p.Trim(1 << 40)
		mustBe(t, "trimmed", p, s)
		if err == api.OK {
			if acts < 3 {
				t.Errorf("%d acts", acts)
			}
			break
		}
		must(t, "Trim", err, api.ErrDead)
		if acts > 0 && p.First() == first {
			t.Errorf("%d acts: nothing was dropped", acts)
		}
		d.Crash(nil)
		q := open(t, d.Clone())
		must(t, "First", q.First(), p.First())
		mustBe(t, "opened again", q, s)
	}
}

// P18.3, P18.6: a command that is dropped ahead of its being done isn't done any more.
func TestTrimCommands(t *testing.T) {
	p, err := part.Open(disk.New(), 1, 2, 64, 100)
	must(t, "Open", err, api.OK)
	for range 6 {
		ask(t, p, create("no", text("s", strings.Repeat("x", 99))))
	}
	must(t, "Save", p.Save(), api.OK)
	must(t, "Save", p.Save(), api.OK)
	must(t, "Trim", p.Trim(3), api.OK)
	must(t, "First", p.First(), 4)
	must(t, "done", all(t, p), 3)
	replies, _ := flush(t, p)
	must(t, "the first reply", replies[0].Pos, 4)
}
