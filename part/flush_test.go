package part_test

import (
	"testing"

	"wherry/api"
	"wherry/disk"
	"wherry/part"
	"wherry/rec"
)

// P18.4: replies and answers of each kind, in the order in which the commands were done,
// told once.
func TestFlush(t *testing.T) {
	p := open(t, disk.New())
	opens := with(at(api.COpen, 2<<40+9, 1, 6), func(r *api.Record) { r.A, r.B = "paid", "k" })
	l := []api.Record{
		deploy(line()), create("line"), opens, activate("w", 1, 10), publish("k", "x", 50),
		at(api.CMatch, 7, 1, 3<<40+1), complete(key(3)), of(api.CFail, 3), of(api.CCancel, 3), of(api.CResolve, 3),
		of(api.CTimer, 3), of(api.CLate, 3), of(api.CExpire, 3), at(api.COpened, 3, 1, 0), at(api.CMatched, 3, 1, 1), at(api.CMissed, 3, 1, 1),
		create("no"), with(opens, func(r *api.Record) { r.A = "" }), activate("w", 1, 10),
	}
	for _, r := range l {
		ask(t, p, r)
	}
	replies, answers := flush(t, p)
	mustReply(t, "none was done", replies)
	mustSend(t, "none was done", answers)
	must(t, "done", all(t, p), len(l))
	replies, answers = flush(t, p)
	mustReply(t, "all", replies,
		api.Reply{Pos: 1, Kind: api.CDeploy},
		api.Reply{Pos: 2, Kind: api.CCreate, Key: key(1)},
		api.Reply{Pos: 4, Kind: api.CActivate, Jobs: []api.Job{taken(job3)}},
		api.Reply{Pos: 5, Kind: api.CPublish, Key: key(4)},
		api.Reply{Pos: 7, Kind: api.CComplete},
		api.Reply{Pos: 8, Kind: api.CFail, Err: api.ErrNone},
		api.Reply{Pos: 9, Kind: api.CCancel, Err: api.ErrNone},
		api.Reply{Pos: 10, Kind: api.CResolve, Err: api.ErrNone},
		api.Reply{Pos: 17, Kind: api.CCreate, Err: api.ErrNone},
		api.Reply{Pos: 19, Kind: api.CActivate},
	)
	mustSend(t, "all", answers,
		api.Send{To: 2, R: at(api.COpened, 2<<40+9, 1, 0)},
		api.Send{To: 3, R: at(api.CMissed, 7, 1, 3<<40+1)},
		api.Send{To: 2, R: at(api.COpened, 2<<40+9, 1, 0)},
	)
	for range 2 {
		replies, answers = flush(t, p)
		mustReply(t, "told once", replies)
		mustSend(t, "told once", answers)
	}
}

// P18.4: what waits is told though a Save has flushed all already, and needs no power.
func TestFlushNothing(t *testing.T) {
	d := disk.New()
	p := open(t, d)
	do(t, p, deploy(line()))
	do(t, p, with(at(api.COpen, 9, 1, 6), func(r *api.Record) { r.A, r.B = "paid", "k" }))
	must(t, "Save", p.Save(), api.OK)
	must(t, "sure", p.Sure(), p.Next())
	d.Power(0)
	replies, answers := flush(t, p)
	mustReply(t, "flushed", replies, api.Reply{Pos: 1, Kind: api.CDeploy})
	mustSend(t, "flushed", answers, api.Send{To: 0, R: at(api.COpened, 9, 1, 0)})
	must(t, "off", d.Off(), false)
}

// P18.4: the power is gone: nothing is told, and it waits still; then all of it is told.
func TestFlushDead(t *testing.T) {
	d := disk.New()
	p := open(t, d)
	do(t, p, deploy(line()))
	do(t, p, at(api.CMatch, 7, 1, 3<<40+1))
	d.Power(0)
	for range 2 {
		replies, answers, err := p.Flush()
		must(t, "Flush", err, api.ErrDead)
		mustReply(t, "no power", replies)
		mustSend(t, "no power", answers)
		must(t, "Sure", p.Sure(), 1)
		mustSend(t, "no power", p.Retry())
	}
	d.Crash([]int{api.MaxFile})
	replies, answers := flush(t, p)
	mustReply(t, "again", replies, api.Reply{Pos: 1, Kind: api.CDeploy})
	mustSend(t, "again", answers, api.Send{To: 3, R: at(api.CMissed, 7, 1, 3<<40+1)})
}

// P18.4: what was told shares no memory with what is told later, nor with what is kept
// (R3): it is written into while other things wait, its spare room too.
func TestFlushOwn(t *testing.T) {
	p := open(t, disk.New())
	do(t, p, deploy(line()))
	opens := with(at(api.COpen, 9, 1, 6), func(r *api.Record) { r.A, r.B = "paid", "k" })
	before, sent := flush(t, p)
	for _, n := range []int{0, 2, 0, 4, 0, 5, 1, 9, 0, 0} {
		var replies []api.Reply
		var answers []api.Send
		for range n + 1 {
			made := key(p.State().Made + 1)
			replies = append(replies, api.Reply{Pos: do(t, p, create("line")), Kind: api.CCreate, Key: made})
			job := taken(api.Job{Key: made + 2, Token: made + 1, Type: "pay", Retries: 3})
			replies = append(replies, api.Reply{Pos: do(t, p, activate("w", 1, 10)), Kind: api.CActivate, Jobs: []api.Job{job}})
			do(t, p, opens)
			answers = append(answers, api.Send{To: 0, R: at(api.COpened, 9, 1, 0)})
		}
		s := p.State()
		clear(before[:cap(before)])
		clear(sent[:cap(sent)])
		before, sent = flush(t, p)
		mustReply(t, "all", before, replies...)
		mustSend(t, "all", sent, answers...)
		clear(before[1].Jobs)
		mustBe(t, "written into", p, s)
	}
}

// P18.4: Retry tells what is to be sent, again and again, but only while all of the log is
// sure.
func TestRetry(t *testing.T) {
	for parts := 1; parts <= 4; parts++ {
		p, err := part.Open(disk.New(), 0, parts, 4096, 100)
		must(t, "Open", err, api.OK)
		do(t, p, deploy(catch()))
		do(t, p, create("catch", text("s", "ab")))
		do(t, p, with(at(api.COpen, 3<<40+9, 1, 6), func(r *api.Record) { r.A, r.B = "paid", "k" }))
		do(t, p, publish("k", "x", 50, num("m", 1)))
		mustSend(t, "not sure", p.Retry())
		flush(t, p)
		want := []api.Send{
			{To: 3105 % parts, R: with(at(api.COpen, 2, 1, 1), func(r *api.Record) { r.A, r.B = "paid", "ab" })},
			{To: 3, R: at(api.CMatch, 3<<40+9, 1, 3, num("m", 1))},
		}
		for range 2 {
			l := p.Retry()
			mustSend(t, "sure", l, want...)
			l[1].R.Vars[0].Name = "written into"
			clear(append(l, l[0]))
		}
		pos := ask(t, p, at(api.COpened, 2, 1, 0))
		mustSend(t, "asked", p.Retry())
		step(t, p)
		mustSend(t, "done", p.Retry())
		must(t, "Save", p.Save(), api.OK)
		mustSend(t, "sure again", p.Retry(), want[1])
		must(t, "asked at", pos, p.Next()-2)
	}
}

// P18.5: time goes on by 0 to MaxTime, and not above MaxTime.
func TestTick(t *testing.T) {
	for _, x := range []struct{ now, by, want int64 }{
		{100, 0, 100}, {100, 1, 101}, {100, -1, 100}, {100, -1 << 63, 100}, {100, 1<<63 - 1, 100},
		{0, 1 << 40, 1 << 40}, {0, 1<<40 + 1, 0}, {0, 1<<40 - 1, 1<<40 - 1}, {100, 1<<40 - 100, 1 << 40}, {100, 1<<40 - 99, 100}, {100, 1 << 40, 100},
		{1 << 40, 0, 1 << 40}, {1 << 40, 1, 1 << 40}, {1 << 40, 1 << 40, 1 << 40}, {1 << 40, -1, 1 << 40}, {1 << 40, 1<<63 - 1, 1 << 40},
	} {
		d := disk.New()
		p := openAt(t, d, x.now)
		p.Tick(x.by)
		must(t, "Now", p.Now(), x.want)
		must(t, "Next", p.Next(), 1)
		must(t, "the disk", whole(d), "")
	}
}

// P18.5: State is the partition's, in memory of its own.
func TestState(t *testing.T) {
	p := open(t, disk.New())
	for _, r := range []api.Record{deploy(line()), create("line", num("a", 1)), publish("k", "x", 50, num("m", 1))} {
		do(t, p, r)
	}
	want := folded(records(t, p))
	s := p.State()
	s.Procs[0].Id, s.Insts[0].Vars[0].Name, s.Tokens[0].Node, s.Messages[0].Vars[0].Name = "x", "x", 9, "x"
	s.Jobs = append(s.Jobs[:0], api.Job{})
	mustBe(t, "written into", p, want)
	do(t, p, complete(key(3)))
	mustBe(t, "behind it", p, folded(records(t, p)))
}

// P18.5: Record of each position: below First, from there on, at Next, above it; of one
// that is none.
func TestRecord(t *testing.T) {
	d := disk.New()
	l := six(t)
	for _, r := range l {
		lay(t, d, 64, bytesOf(t, r))
	}
	lay(t, d, 64, []string{"none"})
	keepState(t, d, 7, rowsOf(api.State{Pos: 7, Done: 4}))
	must(t, "Drop", lay(t, d, 64).Drop(3), api.OK)
	p := open(t, d)
	must(t, "First", p.First(), 3)
	for pos, want := range map[uint64]api.Errno{0: api.ErrNone, 1: api.ErrNone, 2: api.ErrNone, 3: api.OK, 6: api.OK, 7: api.ErrForm, 8: api.ErrNone, 9: api.ErrNone, 1 << 40: api.ErrNone, 1<<64 - 1: api.ErrNone} {
		r, err := p.Record(pos)
		must(t, "Record", err, want)
		wanted := api.Record{}
		if err == api.OK {
			wanted = l[pos-1]
		}
		mustBeRecord(t, r, wanted)
	}
	pos := ask(t, p, create("line", num("a", 1)))
	for range 2 {
		r, err := p.Record(pos)
		must(t, "Record", err, api.OK)
		mustBeRecord(t, r, with(create("line", num("a", 1)), func(r *api.Record) { r.Time = 100 }))
		r.Vars[0].Name = "written into"
	}
}

func mustBeRecord(t *testing.T, got, want api.Record) {
	t.Helper()
	if !rec.Same(got, want) {
		t.Fatalf("%+v, want %+v", got, want)
	}
}
