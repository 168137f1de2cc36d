package part_test

import (
	"slices"
	"strconv"
	"testing"

	"wherry/api"
	"wherry/disk"
	"wherry/part"
)

// act is a call of a partition, and what the plain one does then.
type act struct {
	call func(p *part.Part) api.Errno
	then func(m *plain)
}

func asks(r api.Record) act {
	return act{
		func(p *part.Part) api.Errno { _, err := p.Ask(r); return err },
		func(m *plain) { m.ask(r) },
	}
}

func dues() act {
	return act{
		func(p *part.Part) api.Errno { _, err := p.Due(); return err },
		func(m *plain) { m.due() },
	}
}

func steps() act {
	return act{
		func(p *part.Part) api.Errno { _, err := p.Step(); return err },
		func(m *plain) { m.step() },
	}
}

func flushes() act {
	return act{
		func(p *part.Part) api.Errno { _, _, err := p.Flush(); return err },
		func(m *plain) { m.flush() },
	}
}

func saves() act {
	return act{(*part.Part).Save, func(m *plain) { m.sure = len(m.all) }}
}

// trims has nothing of the plain one's: what is told of it holds as far as there is a log.
func trims(ack uint64) act {
	return act{
		func(p *part.Part) api.Errno { return p.Trim(ack) },
		func(m *plain) {},
	}
}

func ticks(by int64) act {
	return act{
		func(p *part.Part) api.Errno { p.Tick(by); return api.OK },
		func(m *plain) { m.now += by },
	}
}

// script are calls of each kind: with batches of one record and of more that aren't
// flushed, segments that are begun, checkpoints, and what is dropped.
func script() []act {
	opens := with(at(api.COpen, 2<<40+9, 1, 6), func(r *api.Record) { r.A, r.B = "paid", "k" })
	return []act{
		asks(deploy(line())), asks(deploy(wait())), steps(), steps(), flushes(), saves(),
		asks(create("line")), steps(), asks(create("wait")), asks(activate("w", 1, 10)), steps(), flushes(), steps(), saves(),
		asks(create("no")), steps(), trims(4), asks(opens), ticks(10), dues(), steps(), steps(), flushes(), trims(1 << 40),
		asks(publish("k", "x", 0)), steps(), steps(), saves(), steps(), asks(complete(key(3))), asks(complete(key(3))), steps(), steps(), flushes(),
		trims(1 << 40), saves(), asks(create("wait")), saves(), steps(), trims(1 << 40), saves(),
	}
}

// rests are the files that have bytes that aren't safe, by their places in Names, and how
// many of these each has.
func rests(d *disk.Disk) map[int]int {
	all, safe := d.Clone(), d.Clone()
	all.Crash(slices.Repeat([]int{api.MaxFile}, api.MaxFiles))
	safe.Crash(nil)
	l := map[int]int{}
	for i, name := range all.Names() {
		a, _ := all.Read(name)
		b, _ := safe.Read(name)
		if len(a) > len(b) {
			l[i] = len(a) - len(b)
		}
	}
	return l
}

// crashed are the disks that a crash may leave of one: with each kept length of each
// file's rest, the others' rests gone or there.
func crashed(d *disk.Disk) []*disk.Disk {
	var l []*disk.Disk
	crash := func(other, place, kept int) {
		keep := slices.Repeat([]int{other}, api.MaxFiles)
		keep[place] = kept
		x := d.Clone()
		x.Crash(keep)
		l = append(l, x)
	}
	all := rests(d)
	if len(all) == 0 {
		crash(0, 0, 0)
	}
	for place, rest := range all {
		for kept := range rest + 1 {
			crash(0, place, kept)
			if len(all) > 1 {
				crash(api.MaxFile, place, kept)
			}
		}
	}
	return l
}

// again is what Open makes of a crashed disk, at each act at which the power may go in it
// (there is no rest then of which anything might be kept), and with power for all.
func again(t *testing.T, d *disk.Disk, segment int, now int64) []*part.Part {
	t.Helper()
	var l []*part.Part
	for acts := 0; ; acts++ {
		x := d.Clone()
		x.Power(acts)
		p, err := part.Open(x, 1, 2, segment, now)
		if err == api.OK {
			x.Power(-1)
			return append(l, p)
		}
		must(t, "Open", err, api.ErrDead)
		must(t, "files with a rest", len(rests(x)), 0)
		x.Crash(nil)
		p, err = part.Open(x, 1, 2, segment, now)
		must(t, "Open again", err, api.OK)
		l = append(l, p)
	}
}

// mustBeThere holds what is there behind a crash against the plain partition: a log of all
// records that were sure, and whole batches behind them; the state that all its records,
// from the first on, come to; and nothing waits. What is done from there on is what the
// plain one does.
func mustBeThere(t *testing.T, m *plain, l []*part.Part) {
	t.Helper()
	x := *m
	x.crash(t, int(l[0].Next()-1))
	for _, p := range l {
		x.first = p.First()
		x.mustBe(t, p)
		must(t, "Sure", p.Sure(), p.Next())
	}
	p := l[len(l)-1]
	replies, answers := flush(t, p)
	mustReply(t, "nothing waits", replies)
	mustSend(t, "nothing waits", answers)
	for x.step() {
		step(t, p)
	}
	must(t, "all", all(t, p), 0)
	x.mustBe(t, p)
	mustBeOnce(t, x.all)
}

// mustBeOnce: what became of each command stands in one row, behind what became of those
// ahead of it.
func mustBeOnce(t *testing.T, l []api.Record) {
	t.Helper()
	var ends []uint64
	for i, r := range l {
		if r.Class != api.Command && (i == 0 || l[i-1].From != r.From) {
			ends = append(ends, r.From)
		}
		if r.Class != api.Command && l[r.From-1].Class != api.Command {
			t.Fatalf("%+v comes of what is no command", r)
		}
	}
	for i := 1; i < len(ends); i++ {
		if ends[i] <= ends[i-1] {
			t.Fatalf("done: %d", ends)
		}
	}
}

// P18.7: the power goes at every act of Ask, Due, Step, Flush, Save and Trim, and of the
// Open behind it, with every kept length.
func TestCrashes(t *testing.T) {
	for _, segment := range []int{64, 200, 4096} {
		t.Run(strconv.Itoa(segment), func(t *testing.T) {
			t.Parallel()
			acts := 0
			for died := true; died; acts++ {
				d := disk.New()
				var m *plain
				m, died = run(t, d, segment, acts)
				for _, x := range crashed(d) {
					mustBeThere(t, m, again(t, x, segment, m.now))
				}
			}
			if acts < 60 {
				t.Errorf("the power went at %d acts", acts)
			}
		})
	}
}

// run does the script on a disk with power for so many acts, until it dies, if it does.
func run(t *testing.T, d *disk.Disk, segment, acts int) (*plain, bool) {
	t.Helper()
	p, err := part.Open(d, 1, 2, segment, 100)
	must(t, "Open", err, api.OK)
	m := newPlain(1, 2, 100)
	d.Power(acts)
	for _, x := range script() {
		err := x.call(p)
		if err == api.OK {
			x.then(m)
			m.first = p.First()
		}
		m.mustBe(t, p)
		if err != api.OK {
			must(t, "without power", err, api.ErrDead)
			return m, true
		}
	}
	return m, false
}
