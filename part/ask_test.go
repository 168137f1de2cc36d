package part_test

import (
	"fmt"
	"math"
	"strings"
	"testing"

	"wherry/api"
	"wherry/disk"
	"wherry/fold"
	"wherry/frame"
	"wherry/part"
)

// fill gives a disk files until it takes no new one.
func fill(d *disk.Disk) {
	for i := 0; d.Append(fmt.Sprint("x", i), "") == api.OK; i++ {
	}
}

// frames are how many stand in a file.
func frames(d *disk.Disk, name string) int {
	bytes, _ := d.Read(name)
	n := 0
	for range frame.Walk(bytes) {
		n++
	}
	return n
}

// mustNotAsk holds Ask to an error, beside which nothing changes.
func mustNotAsk(t *testing.T, what string, p *part.Part, r api.Record, want api.Errno) {
	t.Helper()
	s, next := p.State(), p.Next()
	pos, err := p.Ask(r)
	must(t, what, err, want)
	must(t, what, pos, 0)
	must(t, what, p.Next(), next)
	mustBe(t, what, p, s)
}

// P18.2: a command is appended with the partition's Time, whatever its own; the state's
// Pos becomes its position, and nothing else of it changes.
func TestAsk(t *testing.T) {
	d := disk.New()
	p := open(t, d)
	var want []api.Record
	for i, now := range []int64{5, -1, 100, math.MinInt64, math.MaxInt64, 1<<40 + 1} {
		p.Tick(int64(i))
		r := complete(7, num("a", 3))
		r.Time = now
		must(t, "Ask", ask(t, p, r), uint64(i+1))
		r.Time = p.Now()
		want = append(want, r)
		mustBe(t, "the state", p, api.State{Pos: uint64(i + 1)})
	}
	must(t, "Now", p.Now(), 115)
	must(t, "Sure", p.Sure(), 1)
	mustTell(t, "all", p, 0, want...)
	must(t, "batches", frames(d, "log-0000000001"), len(want))
}

// P18.2: a record that is no command, or that may not be, is refused.
func TestAskRefused(t *testing.T) {
	p := open(t, disk.New())
	ask(t, p, create("line"))
	long := strings.Repeat("n", 33)
	for what, r := range map[string]api.Record{
		"an event":            {Class: api.Event, Kind: api.EDone, From: 1},
		"a refusal":           {Class: api.Refusal, Kind: api.CCreate, From: 1},
		"no class":            {Kind: api.CCreate},
		"an unknown class":    {Class: 4, Kind: api.CCreate},
		"a class below":       {Class: -1, Kind: api.CCreate},
		"no kind":             {Class: api.Command},
		"an unknown kind":     {Class: api.Command, Kind: 17},
		"a kind below":        {Class: api.Command, Kind: -1},
		"a From":              {Class: api.Command, Kind: api.CCreate, From: 1},
		"a long A":            create(long),
		"a long B":            publish(strings.Repeat("n", 1025), "", 1),
		"a long C":            publish("k", long, 1),
		"variables unordered": create("p", num("b", 1), num("a", 1)),
		"too many bytes":      deploy(strings.Repeat("n", 4096)),
		"far too many bytes":  deploy(strings.Repeat("n", 8193)),
	} {
		mustNotAsk(t, what, p, r, api.ErrArg)
	}
	must(t, "behind them", ask(t, p, create(long[:32])), 2)
}

// P18.2: all kinds of commands may be asked, by whomever.
func TestAskKinds(t *testing.T) {
	p := open(t, disk.New())
	for kind := api.CDeploy; kind <= api.CMissed; kind++ {
		must(t, "Ask", ask(t, p, of(kind, 7)), uint64(kind))
	}
}

// P18.2: the partition's Time, and not the record's own, makes the bytes fit or not.
func TestAskLongest(t *testing.T) {
	p := openAt(t, disk.New(), 0)
	most := deploy(strings.Repeat("n", 4082))
	most.Time = 1 << 40
	ask(t, p, most)
	mustNotAsk(t, "a byte more", p, deploy(strings.Repeat("n", 4083)), api.ErrArg)
	p.Tick(100)
	most.Time = 0
	mustNotAsk(t, "a later time", p, most, api.ErrArg)
	ask(t, p, deploy(strings.Repeat("n", 4081)))
}

// P18.2: the log refuses: the disk is full, without power, off, or there is no position
// any more; a record that may not be is refused as ever.
func TestAskLogRefused(t *testing.T) {
	full := disk.New()
	p := open(t, full)
	fill(full)
	mustNotAsk(t, "full", p, create("a"), api.ErrFull)
	mustNotAsk(t, "full", p, of(0, 0), api.ErrArg)
	full.Delete("x7")
	must(t, "room", ask(t, p, create("a")), 1)

	dead := disk.New()
	p = open(t, dead)
	ask(t, p, create("a"))
	dead.Power(0)
	mustNotAsk(t, "no power", p, create("b"), api.ErrDead)
	mustNotAsk(t, "off", p, create("b"), api.ErrDead)
	mustNotAsk(t, "off", p, of(17, 0), api.ErrArg)
	dead.Crash([]int{api.MaxFile})
	must(t, "power", ask(t, p, create("b")), 2)

	last := disk.New()
	last.Append(seglogName(1<<40), "")
	keepState(t, last, 1<<40-1, rowsOf(api.State{Pos: 1<<40 - 1}))
	p = open(t, last)
	must(t, "the last position", ask(t, p, create("a")), 1<<40)
	mustNotAsk(t, "no position", p, create("b"), api.ErrFull)
	is, err := p.Step()
	must(t, "Step", is, false)
	must(t, "Step", err, api.ErrFull)
	must(t, "Pos", p.State().Pos, 1<<40)
}

// P18.2: what is handed in isn't kept (R3).
func TestAskOwn(t *testing.T) {
	p := open(t, disk.New())
	vars := append(make([]api.Var, 0, 4), num("a", 1))
	ask(t, p, create("line", vars...))
	vars[0] = num("b", 2)
	mustTell(t, "as it was asked", p, 0, with(create("line", num("a", 1)), func(r *api.Record) { r.Time = 100 }))
	if len(vars[:2][1].Name) != 0 {
		t.Error("the spare room was written into")
	}
}

// P18.2: nothing is due: 0, and nothing is appended, whatever the disk.
func TestDueNothing(t *testing.T) {
	d := disk.New()
	p := open(t, d)
	do(t, p, deploy(wait()))
	do(t, p, create("wait"))
	p.Tick(9)
	d.Power(0)
	for range 2 {
		s := p.State()
		n, err := p.Due()
		must(t, "Due", err, api.OK)
		must(t, "Due", n, 0)
		mustBe(t, "Due", p, s)
		mustNotAsk(t, "the power is gone", p, create("a"), api.ErrDead)
	}
}

// P18.2: what is due is appended as one batch: timers, then jobs, then messages, each with
// the partition's Time. It is due until it is done.
func TestDue(t *testing.T) {
	d := disk.New()
	p := open(t, d)
	for _, r := range []api.Record{
		deploy(line()), deploy(wait()), create("line"), create("wait"), create("wait"), create("line"),
		activate("w", 1, 10), publish("k", "", 10), publish("k", "", 11),
	} {
		do(t, p, r)
	}
	s, last, batches := p.State(), p.Next()-1, frames(d, "log-0000000001")
	must(t, "Due early", due(t, p), 0)
	p.Tick(10)
	want := []api.Record{
		{Class: api.Command, Kind: api.CTimer, Time: 110, Key: s.Timers[0].Token, N: 1},
		{Class: api.Command, Kind: api.CTimer, Time: 110, Key: s.Timers[1].Token, N: 1},
		{Class: api.Command, Kind: api.CLate, Time: 110, Key: s.Jobs[0].Key},
		{Class: api.Command, Kind: api.CExpire, Time: 110, Key: s.Messages[0].Key},
	}
	for i := range 2 {
		must(t, "Due", due(t, p), 4)
		s.Pos += 4
		mustBe(t, "Due", p, s)
		must(t, "batches", frames(d, "log-0000000001"), batches+1+i)
	}
	mustTell(t, "Due", p, last, append(want, want...)...)
	must(t, "done", all(t, p), 8)
	must(t, "Due again", due(t, p), 0)
	p.Tick(1)
	must(t, "Due of the other message", due(t, p), 1)
}

func due(t *testing.T, p *part.Part) int {
	t.Helper()
	n, err := p.Due()
	must(t, "Due", err, api.OK)
	return n
}

// timers lays a log down that comes to so many of them, which are due at 100.
func timers(t *testing.T, d *disk.Disk, n int) []api.Record {
	t.Helper()
	l := []api.Record{of(api.CTimer, 0)}
	for i := range n {
		l = append(l, api.Record{Class: api.Event, Kind: api.ETimer, From: 1, Key: uint64(i + 1), N: 3, M: 100})
	}
	for i := 0; i < len(l); i += 200 {
		lay(t, d, 1<<16, bytesOf(t, l[i:min(i+200, len(l))]...))
	}
	return l
}

// P18.2: of more than a batch has the first MaxBatch.
func TestDueMany(t *testing.T) {
	for _, n := range []int{255, 256, 257, 600} {
		d := disk.New()
		l := timers(t, d, n)
		p, err := part.Open(d, 1, 2, 1<<16, 100)
		must(t, "Open", err, api.OK)
		for range 2 {
			some := min(n, 256)
			must(t, "Due", due(t, p), some)
			for i := range some {
				l = append(l, api.Record{Class: api.Command, Kind: api.CTimer, Time: 100, Key: uint64(i + 1), N: 3})
			}
			if !fold.Same(p.State(), folded(l)) {
				t.Fatalf("%d: %+v", n, p.State().Pos)
			}
		}
		mustTell(t, "Due", p, 0, l...)
	}
}

// P18.2: the log refuses what is due: nothing changes, and it is due still.
func TestDueLogRefused(t *testing.T) {
	for _, want := range []api.Errno{api.ErrFull, api.ErrDead} {
		d := disk.New()
		timers(t, d, 70)
		p, err := part.Open(d, 1, 2, 64, 100)
		must(t, "Open", err, api.OK)
		if want == api.ErrFull {
			fill(d)
		} else {
			d.Power(1)
		}
		for range 2 {
			s, next := p.State(), p.Next()
			n, err := p.Due()
			must(t, "Due", err, want)
			must(t, "Due", n, 0)
			must(t, "Next", p.Next(), next)
			mustBe(t, "Due", p, s)
		}
		d.Delete("x7")
		d.Crash(nil)
		must(t, "Due again", due(t, p), 70)
	}
}
