package part_test

import (
	"math/rand"
	"slices"
	"testing"

	"wherry/api"
	"wherry/disk"
	"wherry/part"
	"wherry/rec"
)

// one is a partition, its disk, and the plain one that it is held against.
type one struct {
	d       *disk.Disk
	p       *part.Part
	m       *plain
	segment int
}

// world is some partitions, the commands on their way between them, and what there was.
type world struct {
	t      *testing.T
	g      *rand.Rand
	l      []*one
	box    []api.Send
	crash  int
	events map[int]int
	errs   map[api.Errno]int
}

func newWorld(t *testing.T, seed int64) *world {
	w := &world{t: t, g: rand.New(rand.NewSource(seed)), events: map[int]int{}, errs: map[api.Errno]int{}}
	parts := 1 + w.g.Intn(4)
	for id := range parts {
		x := &one{d: disk.New(), segment: []int{64, 300, 4096}[w.g.Intn(3)], m: newPlain(id, parts, 100)}
		p, err := part.Open(x.d, id, parts, x.segment, 100)
		must(t, "Open", err, api.OK)
		x.p = p
		for _, bytes := range []string{line(), catch(), wait(), ways()} {
			do(t, p, deploy(bytes))
			x.m.ask(deploy(bytes))
			x.m.step()
		}
		w.l = append(w.l, x)
	}
	return w
}

// pick is the key of one of a list, or now and then another number.
func pick[T any](g *rand.Rand, l []T, key func(x T) uint64) uint64 {
	if len(l) == 0 || g.Intn(9) == 0 {
		return uint64(g.Intn(5))
	}
	return key(l[g.Intn(len(l))])
}

// command is one that a client may ask, or the clock, or one that may not be.
func (w *world) command(x *one) api.Record {
	g, s := w.g, x.m.state
	inst := pick(g, s.Insts, func(x api.Instance) uint64 { return x.Key })
	token := pick(g, s.Tokens, func(x api.Token) uint64 { return x.Key })
	job := pick(g, s.Jobs, func(x api.Job) uint64 { return x.Key })
	message := pick(g, s.Messages, func(x api.Message) uint64 { return x.Key })
	name := []string{"k", "j"}[g.Intn(2)]
	var vars []api.Var
	if g.Intn(2) == 0 {
		vars = []api.Var{num("a", g.Int63n(4)), text("s", name)}
	}
	switch g.Intn(16) {
	case 0:
		return deploy([]string{line(), catch(), "x"}[g.Intn(3)])
	case 1, 2, 3:
		id := []string{"line", "catch", "catch", "wait", "ways", "no"}[g.Intn(6)]
		return create(id, vars...)
	case 4:
		return complete(job, vars...)
	case 5:
		return with(of(api.CFail, job), func(r *api.Record) { r.N = g.Int63n(11) })
	case 6, 7:
		return activate("w", g.Int63n(4), g.Int63n(6))
	case 8, 9:
		return publish(name, []string{"", "x", "x"}[g.Intn(3)], g.Int63n(40), vars...)
	case 10:
		return of(api.CCancel, inst)
	case 11:
		return with(of(api.CResolve, token), func(r *api.Record) { r.Vars = vars })
	case 12:
		return at(api.CTimer, token, g.Int63n(3), 0)
	case 13:
		return []api.Record{of(api.CLate, job), of(api.CExpire, message), of(0, 0), {Class: api.Event, Kind: api.EDone, From: 1}}[g.Intn(4)]
	case 14:
		return create("catch", text("s", name))
	}
	return at(api.CDeploy+g.Intn(16), token, g.Int63n(3), message, vars...)
}

// act does one thing with a partition, and tells what it was refused by.
func (w *world) act(x *one) api.Errno {
	g := w.g
	switch g.Intn(20) {
	case 0, 1, 2:
		return w.ask(x, w.command(x))
	case 3, 4, 5, 6:
		is, err := x.p.Step()
		if err == api.OK {
			must(w.t, "Step", is, x.m.step())
		}
		return err
	case 7:
		n, err := x.p.Due()
		if err == api.OK {
			must(w.t, "Due", n, x.m.due())
		}
		return err
	case 8, 9:
		return w.flush(x)
	case 10:
		return w.retry(x)
	case 11:
		by := g.Int63n(4)
		x.p.Tick(by)
		x.m.now += by
	case 12:
		err := x.p.Save()
		if err == api.OK {
			x.m.sure = len(x.m.all)
		}
		return err
	case 13:
		err := x.p.Trim(uint64(g.Intn(len(x.m.all) + 9)))
		x.m.first = x.p.First()
		return err
	default:
		return w.mail()
	}
	return api.OK
}

func (w *world) ask(x *one, r api.Record) api.Errno {
	pos, err := x.p.Ask(r)
	switch err {
	case api.OK:
		must(w.t, "Ask", x.m.ask(r), true)
		must(w.t, "Ask", pos, uint64(len(x.m.all)))
	case api.ErrArg:
		must(w.t, "Ask", x.m.ask(r), false)
	}
	return err
}

func (w *world) flush(x *one) api.Errno {
	replies, answers, err := x.p.Flush()
	if err != api.OK {
		must(w.t, "nothing is told", len(replies)+len(answers), 0)
		return err
	}
	l, s := x.m.flush()
	mustReply(w.t, "Flush", replies, l...)
	mustSend(w.t, "Flush", answers, s...)
	must(w.t, "Sure", x.p.Sure(), x.p.Next())
	for _, r := range replies {
		w.errs[r.Err]++
	}
	w.box = append(w.box, answers...)
	return api.OK
}

func (w *world) retry(x *one) api.Errno {
	l := x.p.Retry()
	if x.p.Sure() < x.p.Next() {
		mustSend(w.t, "Retry, not sure", l)
		return api.OK
	}
	mustSend(w.t, "Retry", l, x.m.retry()...)
	if len(w.box) < 40 {
		w.box = append(w.box, l...)
	}
	return api.OK
}

// mail delivers a command, out of order; some come twice, some are lost.
func (w *world) mail() api.Errno {
	if len(w.box) == 0 {
		return api.OK
	}
	i := w.g.Intn(len(w.box))
	s := w.box[i]
	if w.g.Intn(4) > 0 {
		w.box = slices.Delete(w.box, i, i+1)
	}
	if s.To >= len(w.l) || w.g.Intn(12) == 0 {
		return api.OK
	}
	return w.ask(w.l[s.To], s.R)
}

// reopen crashes a partition's disk, of which some is kept, and opens it again.
func (w *world) reopen(x *one) {
	keep := make([]int, w.g.Intn(40))
	for i := range keep {
		keep[i] = w.g.Intn(400) - 50
	}
	x.d.Crash(keep)
	p, err := part.Open(x.d, x.m.id, x.m.parts, x.segment, x.m.now)
	must(w.t, "Open", err, api.OK)
	x.p = p
	x.m.crash(w.t, int(p.Next()-1))
	x.m.first = p.First()
	must(w.t, "Sure", p.Sure(), p.Next())
	w.crash++
}

// do does some thing, with power for any number of acts or for a few, and holds all
// partitions against the plain ones.
func (w *world) do() {
	x := w.l[w.g.Intn(len(w.l))]
	if w.g.Intn(30) == 0 {
		for _, x := range w.l {
			x.d.Power(w.g.Intn(4))
		}
	}
	if err := w.act(x); err != api.OK && err != api.ErrArg {
		must(w.t, "refused by", err, api.ErrDead)
	}
	for _, x := range w.l {
		x.m.mustBe(w.t, x.p)
		if x.d.Power(-1); x.d.Off() || w.g.Intn(250) == 0 {
			w.reopen(x)
			x.m.mustBe(w.t, x.p)
		}
	}
}

// P18.2 to P18.7: whole partitions, with mail that is late, lost and doubled, and crashes,
// do what the plain ones do.
func TestWorlds(t *testing.T) {
	events, errs, crashes := map[int]int{}, map[api.Errno]int{}, 0
	for seed := range int64(30) {
		w := newWorld(t, seed)
		for range 500 {
			w.do()
		}
		for _, x := range w.l {
			mustBeOnce(t, x.m.all)
			for _, r := range x.m.all {
				if r.Class == api.Event {
					events[r.Kind]++
				}
				if _, err := rec.Bytes(r); err != api.OK {
					t.Fatalf("%+v: %d", r, err)
				}
			}
		}
		for err, n := range w.errs {
			errs[err] += n
		}
		crashes += w.crash
	}
	for kind := api.EDeployed; kind <= api.EDone; kind++ {
		if kind != api.EFreed && events[kind] == 0 {
			t.Errorf("there were %d events of the kind %d", events[kind], kind)
		}
	}
	for _, err := range []api.Errno{api.OK, api.ErrArg, api.ErrNone, api.ErrThere, api.ErrState} {
		if errs[err] < 20 {
			t.Errorf("the error %d was told %d times", err, errs[err])
		}
	}
	if crashes < 150 {
		t.Errorf("there were %d crashes", crashes)
	}
}
