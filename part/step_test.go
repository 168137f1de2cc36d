package part_test

import (
	"math"
	"slices"
	"testing"

	"wherry/api"
	"wherry/disk"
	"wherry/part"
)

// deed is a command, what is asked ahead of it, and what becomes of it: events (without
// their Class, From and Time), or the error by which it is refused.
type deed struct {
	ahead  []api.Record
	r      api.Record
	events []api.Record
	err    api.Errno
	key    uint64 // of the reply
	jobs   []api.Job
	sends  []api.Send
}

// mustDo does a deed on the partition 1 of two, at the time 100: it is asked at 100 and
// done at 103.
func mustDo(t *testing.T, what string, x deed) {
	t.Helper()
	p := open(t, disk.New())
	for _, r := range x.ahead {
		do(t, p, r)
	}
	flush(t, p)
	pos := ask(t, p, x.r)
	p.Tick(3)
	want := []api.Record{{Class: api.Refusal, Kind: x.r.Kind, From: pos, Time: 100, Key: x.r.Key, N: int64(x.err)}}
	if len(x.events) > 0 {
		want = nil
	}
	for _, e := range x.events {
		e.Class, e.From, e.Time = api.Event, pos, 100
		want = append(want, e)
	}
	step(t, p)
	mustTell(t, what, p, pos, want...)
	mustBe(t, what, p, folded(records(t, p)))
	replies, answers := flush(t, p)
	if x.r.Kind <= api.CResolve {
		mustReply(t, what, replies, api.Reply{Pos: pos, Kind: x.r.Kind, Err: x.err, Key: x.key, Jobs: x.jobs})
	} else {
		mustReply(t, what, replies)
	}
	mustSend(t, what, answers, x.sends...)
	is, err := p.Step()
	must(t, what+": once more", is, false)
	must(t, what+": once more", err, api.OK)
}

// What is told of line's instance 1, token 2 and job 3.
func left(token uint64) api.Record { return api.Record{Kind: api.ELeft, Key: key(token)} }
func passed(inst uint64, n int64) api.Record {
	return api.Record{Kind: api.EPassed, Key2: key(inst), N: n}
}
func ended(inst uint64) api.Record { return api.Record{Kind: api.EEnded, Key: key(inst)} }

var job3 = api.Job{Key: 1<<40 + 3, Token: 1<<40 + 2, Type: "pay", Retries: 3}

func taken(j api.Job) api.Job {
	j.Worker, j.Until = "w", 110
	return j
}

// P18.3: what the kinds up to CFail do, and how each is refused.
func TestStepJobs(t *testing.T) {
	one := []api.Record{deploy(line()), create("line")}
	two := append(slices.Clone(one), activate("w", 1, 10))
	back := api.Record{Kind: api.EBack, Key: key(3), N: 2}
	for what, x := range map[string]deed{
		"CDeploy":   {r: deploy(line()), events: []api.Record{{Kind: api.EDeployed, A: "line", B: line()}}},
		"too much":  {r: deploy(line() + "x"), err: api.ErrForm},
		"in use":    {ahead: one, r: deploy(line()), err: api.ErrState},
		"CCreate":   {ahead: one[:1], r: create("line", num("a", 1)), key: key(1), events: []api.Record{{Kind: api.EBegan, Key: key(1), A: "line", Vars: []api.Var{num("a", 1)}}, passed(1, 0), {Kind: api.EEntered, Key: key(2), Key2: key(1), N: 1}, {Kind: api.EJob, Key: key(3), Key2: key(2), A: "pay", N: 3}}},
		"none":      {ahead: one, r: with(create("no"), func(r *api.Record) { r.Key, r.N, r.A = 9, 8, "no" }), err: api.ErrNone},
		"CComplete": {ahead: one, r: complete(key(3), num("a", 1)), events: []api.Record{{Kind: api.EVars, Key: key(1), Vars: []api.Var{num("a", 1)}}, left(2), passed(1, 2), ended(1)}},
		"no job":    {ahead: one, r: complete(3), err: api.ErrNone},
		"CFail":     {ahead: two, r: with(of(api.CFail, key(3)), func(r *api.Record) { r.N = 2 }), events: []api.Record{back}},
		"CFail, 0":  {ahead: two, r: of(api.CFail, key(3)), events: []api.Record{with(back, func(r *api.Record) { r.N = 0 }), {Kind: api.EStuck, Key: key(2), A: "job"}}},
		"nobody's":  {ahead: one, r: of(api.CFail, key(3)), err: api.ErrState},
		"retries":   {ahead: two, r: with(of(api.CFail, key(3)), func(r *api.Record) { r.N = 10 }), err: api.ErrArg},
		"CActivate": {ahead: one, r: activate("w", 2, 10), events: []api.Record{{Kind: api.ETaken, Key: key(3), A: "w", N: 110}}, jobs: []api.Job{taken(job3)}},
		"no jobs":   {ahead: two, r: activate("v", 2, 10), events: []api.Record{{Kind: api.EDone}}},
		"too many":  {ahead: one, r: activate("w", 33, 10), err: api.ErrArg},
		"no time":   {ahead: one, r: activate("w", 2, 0), err: api.ErrArg},
	} {
		mustDo(t, what, x)
	}
}

// P18.3: CPublish, CCancel, CResolve.
func TestStepClients(t *testing.T) {
	one := []api.Record{deploy(line()), create("line")}
	stuck := []api.Record{deploy(ways()), create("ways")}
	said := []api.Record{publish("k", "x", 50)}
	listed := []api.Record{{Class: api.Command, Kind: api.COpen, Key: 7, Key2: 6, N: 1, A: "paid", B: "k"}}
	lives := api.Record{Kind: api.EPublished, Key: key(1), A: "paid", B: "k", C: "x", N: 150, Vars: []api.Var{num("m", 1)}}
	for what, x := range map[string]deed{
		"CPublish":      {r: publish("k", "x", 50, num("m", 1)), key: key(1), events: []api.Record{lives}},
		"to a place":    {ahead: listed, r: publish("k", "x", 50, num("m", 1)), key: key(1), events: []api.Record{lives, {Kind: api.ESending, Key: 7, N: 1, Key2: key(1)}}},
		"lives already": {ahead: said, r: publish("k", "x", 50), err: api.ErrThere},
		"too long":      {ahead: said, r: publish("k", "y", 1<<20+1), err: api.ErrArg},
		"CCancel":       {ahead: one, r: of(api.CCancel, key(1)), events: []api.Record{{Kind: api.ECancelled, Key: key(1)}}},
		"no instance":   {ahead: one, r: of(api.CCancel, key(2)), err: api.ErrNone},
		"CResolve": {ahead: stuck, r: with(of(api.CResolve, key(2)), func(r *api.Record) { r.Vars = []api.Var{num("a", 2)} }), events: []api.Record{
			{Kind: api.EVars, Key: key(1), Vars: []api.Var{num("a", 2)}}, left(2), passed(1, 1), passed(1, 2), ended(1),
		}},
		"not stuck": {ahead: one, r: of(api.CResolve, key(2)), err: api.ErrState},
	} {
		mustDo(t, what, x)
	}
}

// at is a command of a token and a node; message one with a message, too.
func at(kind int, token uint64, n int64, message uint64, vars ...api.Var) api.Record {
	return api.Record{Class: api.Command, Kind: kind, Key: token, N: n, Key2: message, Vars: vars}
}

// P18.3: what the clock asks is done likewise, and replied to by nobody.
func TestStepClock(t *testing.T) {
	timer := []api.Record{deploy(wait()), create("wait")}
	job := []api.Record{deploy(line()), create("line"), activate("w", 1, 10)}
	p := open(t, disk.New())
	for _, r := range append(timer, job...) {
		do(t, p, r)
	}
	do(t, p, publish("k", "x", 10))
	flush(t, p)
	for _, late := range []bool{false, true} {
		for _, x := range []struct {
			r      api.Record
			events []api.Record
		}{
			{at(api.CTimer, key(2), 1, 0), []api.Record{left(2), passed(1, 2), ended(1)}},
			{of(api.CLate, key(5)), []api.Record{{Kind: api.EBack, Key: key(5), N: 3}}},
			{of(api.CExpire, key(6)), []api.Record{{Kind: api.EExpired, Key: key(6)}}},
		} {
			pos := do(t, p, x.r)
			want := []api.Record{{Class: api.Refusal, Kind: x.r.Kind, From: pos, Time: p.Now(), Key: x.r.Key, N: int64(api.ErrState)}}
			if late {
				want = nil
				for _, e := range x.events {
					e.Class, e.From, e.Time = api.Event, pos, p.Now()
					want = append(want, e)
				}
			}
			mustTell(t, "the clock", p, pos, want...)
		}
		p.Tick(10)
	}
	for _, r := range []api.Record{at(api.CTimer, key(2), 1, 0), of(api.CLate, key(3)), of(api.CExpire, key(6))} {
		pos := do(t, p, r)
		if l := records(t, p)[pos:]; len(l) != 1 || l[0].Class != api.Refusal || l[0].Time != 120 {
			t.Errorf("%+v", l)
		}
	}
	replies, answers := flush(t, p)
	mustReply(t, "the clock", replies)
	mustSend(t, "the clock", answers)
}

// P18.3: a timer's node is N as an int, and not less of it.
func TestStepNode(t *testing.T) {
	p := open(t, disk.New())
	do(t, p, deploy(wait()))
	do(t, p, create("wait"))
	p.Tick(10)
	for n, err := range map[int64]api.Errno{1 << 32 << 16: api.ErrNone, 1<<32 + 1: api.ErrNone, 1<<16 + 1: api.ErrNone, -1: api.ErrNone, 0: api.ErrNone} {
		pos := do(t, p, at(api.CTimer, key(2), n, 0))
		mustTell(t, "another node", p, pos, api.Record{Class: api.Refusal, Kind: api.CTimer, From: pos, Time: 110, Key: key(2), N: int64(err)})
	}
	do(t, p, at(api.CTimer, key(2), 1, 0))
	must(t, "instances", len(p.State().Insts), 0)
}

// P18.3: what partitions ask each other is replied to by nobody, but a COpen and a CMatch
// are answered, refused or not, as the state is behind them.
func TestStepPartitions(t *testing.T) {
	const far = 2<<40 + 9 // a key of another partition
	waits := []api.Record{deploy(catch()), create("catch", text("s", "k"))}
	came := append(slices.Clone(waits), at(api.CMatch, key(2), 1, far))
	opens := with(at(api.COpen, far, 1, 6), func(r *api.Record) { r.A, r.B = "paid", "k" })
	lists := []api.Record{opens}
	sends := []api.Record{opens, publish("k", "x", 50)}
	open := []api.Send{{To: 2, R: at(api.COpened, far, 1, 0)}}
	done := []api.Record{{Kind: api.EDone}}
	kept := api.Record{Kind: api.EKept, Key: key(2), Key2: far, N: 1}
	many := make([]api.Var, 16)
	for i := range many {
		many[i] = num(string(rune('a'+i)), 1)
	}
	matched := []api.Send{{To: 2, R: at(api.CMatched, key(2), 1, far)}}
	missed := []api.Send{{To: 2, R: at(api.CMissed, key(2), 1, far)}}
	for what, x := range map[string]deed{
		"COpen":       {r: opens, events: []api.Record{{Kind: api.EListed, Key: far, Key2: 6, N: 1, A: "paid", B: "k"}}, sends: open},
		"again":       {ahead: lists, r: opens, events: done, sends: open},
		"no name":     {r: with(opens, func(r *api.Record) { r.A = "" }), err: api.ErrArg, sends: open},
		"COpened":     {ahead: waits, r: at(api.COpened, key(2), 1, 0), events: []api.Record{{Kind: api.EOpen, Key: key(2), N: 1}}},
		"not waiting": {r: at(api.COpened, key(2), 1, 0), events: done},
		"CMatch": {ahead: waits, r: at(api.CMatch, key(2), 1, far, num("m", 7)), sends: matched, events: []api.Record{
			kept, {Kind: api.EVars, Key: key(1), Vars: []api.Var{num("m", 7), text("s", "k")}}, left(2), passed(1, 2), ended(1),
		}},
		"came":        {ahead: came, r: at(api.CMatch, key(2), 1, far, num("m", 7)), events: done, sends: matched},
		"missed":      {ahead: waits, r: at(api.CMatch, key(3), 1, far), events: done, sends: []api.Send{{To: 2, R: at(api.CMissed, key(3), 1, far)}}},
		"stuck":       {ahead: waits, r: at(api.CMatch, key(2), 1, far, many...), sends: missed, events: []api.Record{{Kind: api.EStuck, Key: key(2), A: "vars"}}},
		"CMatched":    {ahead: sends, r: at(api.CMatched, far, 1, key(1)), events: []api.Record{{Kind: api.EMatched, Key: far, Key2: key(1), N: 1}}},
		"not sent":    {ahead: sends, r: at(api.CMatched, far, 1, key(2)), events: done},
		"CMissed":     {ahead: sends, r: at(api.CMissed, far, 1, key(1)), events: []api.Record{{Kind: api.EMissed, Key: far, Key2: key(1), N: 1}}},
		"missed once": {ahead: append(sends, at(api.CMissed, far, 1, key(1))), r: at(api.CMissed, far, 1, key(1)), events: done},
	} {
		mustDo(t, what, x)
	}
}

// P18.3: without a next command nothing is done, whatever the disk.
func TestStepNothing(t *testing.T) {
	d := disk.New()
	p := open(t, d)
	for _, asked := range []int{0, 1, 2} {
		for range asked {
			ask(t, p, create("no"))
		}
		must(t, "done", all(t, p), asked)
		before := whole(d)
		for range 2 {
			is, err := p.Step()
			must(t, "Step", is, false)
			must(t, "Step", err, api.OK)
			must(t, "the disk", whole(d), before)
		}
	}
	d.Power(0)
	is, err := p.Step()
	must(t, "Step", is, false)
	must(t, "Step", err, api.OK)
	must(t, "off", d.Off(), false)
}

// P18.3: the next command is the one of the least position above Done; events and
// refusals between are passed over, and so is what is no record.
func TestStepOrder(t *testing.T) {
	p := open(t, disk.New())
	ask(t, p, deploy(line()))
	ask(t, p, create("no"))
	ask(t, p, create("line"))
	step(t, p)
	ask(t, p, create("no"))
	must(t, "all others", all(t, p), 3)
	var froms []uint64
	for _, r := range records(t, p) {
		froms = append(froms, r.From)
	}
	if want := []uint64{0, 0, 0, 1, 0, 2, 3, 3, 3, 3, 5}; !slices.Equal(froms, want) {
		t.Errorf("%d, want %d", froms, want)
	}

	d := disk.New()
	lay(t, d, 4096, []string{"", "none"}, bytesOf(t, create("no")), []string{"none"}, bytesOf(t, create("also")))
	keepState(t, d, 5, rowsOf(api.State{Pos: 5}))
	p = open(t, d)
	must(t, "behind what is none", all(t, p), 2)
	replies, _ := flush(t, p)
	mustReply(t, "behind what is none", replies, api.Reply{Pos: 3, Kind: api.CCreate, Err: api.ErrNone}, api.Reply{Pos: 5, Kind: api.CCreate, Err: api.ErrNone})
}

// P18.3: what a state has done, nobody does once more, whatever the log has.
func TestStepDone(t *testing.T) {
	for done, want := range map[uint64]int{0: 3, 1: 2, 2: 1, 3: 0, 4: 0, 9: 0, math.MaxUint64 - 1: 0, math.MaxUint64: 0} {
		d := disk.New()
		lay(t, d, 4096, bytesOf(t, create("a"), create("b"), create("c")))
		keepState(t, d, 3, rowsOf(api.State{Pos: 3, Done: done}))
		p := open(t, d)
		must(t, "done", all(t, p), want)
		if pos := ask(t, p, create("d")); pos > done {
			must(t, "one more", all(t, p), 1)
		}
		must(t, "all", all(t, p), 0)
	}
}

// P18.3: the log refuses what became of a command: nothing has changed, nothing waits, and
// the command is the next one still.
func TestStepLogRefused(t *testing.T) {
	for _, want := range []api.Errno{api.ErrFull, api.ErrDead} {
		d := disk.New()
		p, err := part.Open(d, 1, 2, 64, 100)
		must(t, "Open", err, api.OK)
		do(t, p, deploy(line()))
		flush(t, p)
		ask(t, p, create("line", text("s", string(make([]byte, 99)))))
		if want == api.ErrFull {
			fill(d)
		} else {
			d.Power(1)
		}
		s, next := p.State(), p.Next()
		for range 2 {
			is, err := p.Step()
			must(t, "Step", is, false)
			must(t, "Step", err, want)
			must(t, "Next", p.Next(), next)
			mustBe(t, "refused", p, s)
		}
		d.Delete("x7")
		d.Crash(nil)
		must(t, "again", all(t, p), 1)
		replies, _ := flush(t, p)
		mustReply(t, "again", replies, api.Reply{Pos: 3, Kind: api.CCreate, Key: key(1)})
		mustBe(t, "again", p, folded(records(t, p)))
	}
}

// P18.3: what became of a command is one batch, its own.
func TestStepBatch(t *testing.T) {
	d := disk.New()
	p := open(t, d)
	for i, r := range []api.Record{deploy(line()), create("line"), create("no"), activate("w", 1, 10)} {
		ask(t, p, r)
		must(t, "asked", frames(d, "log-0000000001"), 2*i+1)
		step(t, p)
		must(t, "done", frames(d, "log-0000000001"), 2*i+2)
	}
}

// P18.3: a command is done at the Time at which it was asked, by the partition's number.
func TestStepTimeAndNumber(t *testing.T) {
	for id := range 4 {
		p, err := part.Open(disk.New(), id, 4, 4096, 1000)
		must(t, "Open", err, api.OK)
		ask(t, p, deploy(wait()))
		p.Tick(1)
		ask(t, p, create("wait"))
		p.Tick(1<<40 - 1001)
		must(t, "done", all(t, p), 2)
		want := api.Timer{Token: uint64(id)<<40 + 2, Node: 1, When: 1011}
		if l := p.State().Timers; !slices.Equal(l, []api.Timer{want}) {
			t.Errorf("%+v, want %+v", l, want)
		}
		for _, r := range records(t, p)[2:] {
			must(t, "the time", r.Time, 999+int64(r.From))
		}
	}
}
