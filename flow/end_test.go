package flow_test

import (
	"fmt"
	"strings"
	"testing"

	"wherry/api"
	"wherry/flow"
	"wherry/model"
	"wherry/rec"
)

// busy is a work of odd: every call can be done.
func busy(pos uint64, now int64) work { return begin(odd(), 0, pos, now) }

// done are calls that are done with busy, at time 50 and behind it.
func (w work) done() map[string]func() api.Errno {
	return map[string]func() api.Errno{
		"Deploy": w.deploy(line()), "Create": w.create("p"), "Complete": w.complete(5), "Resolve": w.resolve(2),
		"Cancel": w.cancel(1), "Timer": w.timer(2, 1), "Arrive": w.arrive(2, 1, 7),
	}
}

// P15.2: a command whose events may not be, for their position or their time, is
// refused by ErrLong, behind all other errors.
func TestRecordsThatMayNotBe(t *testing.T) {
	for _, x := range []struct {
		pos  uint64
		now  int64
		want api.Errno
	}{
		{1, 50, api.OK}, {1<<64 - 1, 50, api.OK}, {1, 1 << 40, api.OK},
		{0, 50, api.ErrLong}, {1, 1<<40 + 1, api.ErrLong}, {0, 1<<63 - 1, api.ErrLong},
	} {
		for call := range busy(x.pos, x.now).done() {
			w := busy(x.pos, x.now)
			what := fmt.Sprintf("%s, of the command %d at %d", call, x.pos, x.now)
			if x.want == api.OK {
				if err := w.done()[call](); err != api.OK {
					t.Errorf("%s: %d", what, err)
				}
				continue
			}
			w.mustRefuse(t, what, w.done()[call], x.want)
		}
		w := busy(x.pos, x.now)
		w.mustRefuse(t, "another error", w.complete(99), api.ErrNone)
		w.mustRefuse(t, "another error", w.create("p", api.Var{}), api.ErrArg)
		w.mustRefuse(t, "another error", w.cancel(99), api.ErrNone)
	}
	before := busy(1, -1)
	before.mustRefuse(t, "a time below 0", before.cancel(1), api.ErrLong)
}

// P15.2: an event ahead that may not be has all that follows refused.
func TestAnEventAheadThatMayNotBe(t *testing.T) {
	for call := range busy(1, 50).done() {
		w := busy(1, 50)
		w.Emit(api.Record{Kind: 25})
		w.mustRefuse(t, call, w.done()[call], api.ErrLong)
		w.mustRefuse(t, "another error", w.cancel(99), api.ErrNone)
	}
}

// P15.2: variables that make a record of more than 4096 bytes.
func TestLongVars(t *testing.T) {
	vars := func(last int) []api.Var {
		big := strings.Repeat("v", 1024)
		return []api.Var{text("a", big), text("b", big), text("c", big), text("d", strings.Repeat("v", last))}
	}
	last := func(kind int) int {
		r := api.Record{Class: api.Event, Kind: kind, From: 9, Time: 50, Key: 10, A: "p"}
		for n := 0; n <= 1024; n++ {
			if r.Vars = vars(n); !rec.May(r) {
				return n - 1
			}
		}
		t.Fatal("fits")
		return 0
	}
	n := last(api.EBegan)
	w := begin(odd(), 0, 9, 50)
	w.mustRefuse(t, "one byte too many", w.create("p", vars(n+1)...), api.ErrLong)
	w.mustDo(t, "just as many", w.create("p", vars(n)...), began(10, "p", vars(n)...), passed(10, 0, 0), entered(11, 10, 0, 1, 0), timer(11, 3, 55), job(12, 11))
	s := odd()
	s.Insts[0].Vars = vars(0)[:3]
	for call, do := range map[string]func(w work, n int) api.Errno{
		"Complete": func(w work, n int) api.Errno { return w.Complete(5, vars(n)[3:]) },
		"Resolve":  func(w work, n int) api.Errno { return w.Resolve(2, vars(n)[3:]) },
		"Arrive":   func(w work, n int) api.Errno { return w.Arrive(2, 3, 7, vars(n)[3:]) },
	} {
		n := last(api.EVars) + len("p") // no A
		w := begin(s, 0, 9, 50)
		w.mustRefuse(t, call+", one byte too many", func() api.Errno { return do(w, n+1) }, api.ErrLong)
		if err := do(w, n); err != api.OK {
			t.Errorf("%s, just as many: %d", call, err)
		}
	}
}

// P15.2: a process whose record would have more than 4096 bytes; an Id of more than 32.
func TestLongProcess(t *testing.T) {
	pad := func(n int) api.Process {
		p := choice("true", "true", "true", "true", "true", "true", "true", "true")
		for i := range 7 {
			p.Flows[1+i].Cond += strings.Repeat(" ", 500)
		}
		p.Flows[8].Cond += strings.Repeat(" ", n)
		return p
	}
	may := func(n int) bool {
		r := deployed(pad(n))
		r.Class, r.From = api.Event, 1
		return rec.May(r)
	}
	if !may(100) || may(500) {
		t.Fatal("the bound isn't between these")
	}
	n := 100
	for may(n + 1) {
		n++
	}
	w := begin(api.State{}, 0, 1, 0)
	w.mustRefuse(t, "one byte too many", w.deploy(pad(n+1)), api.ErrLong)
	w.mustDo(t, "just as many", w.deploy(pad(n)), deployed(pad(n)))
	for n, want := range map[int]api.Errno{32: api.OK, 33: api.ErrLong} {
		id := strings.Repeat("i", n)
		w := begin(api.State{Procs: []api.Deployed{{Id: id, Bytes: model.Bytes(line())}}}, 0, 1, 0)
		if want != api.OK {
			w.mustRefuse(t, "an Id that is too long", w.create(id), want)
		} else if err := w.Create(id, nil); err != want {
			t.Errorf("%d bytes: %d", n, err)
		}
	}
}

// crowd is a process of which an instance begins with so many events: a start 0, an
// NAnd 1 that leads seven times to the task 2, at which 30 timers sit, and then to
// the end 3.
func crowd(events int) api.Process {
	p := process([]api.Node{node(api.NStart, "s"), node(api.NAnd, "a"), node(api.NTask, "t"), node(api.NEnd, "e")}, by(0, 1), by(2, 3))
	for range 7 {
		p.Flows = append(p.Flows, by(1, 2))
	}
	for i := range 30 {
		p.Nodes = append(p.Nodes, at(2, node(api.NOnTime, fmt.Sprintf("b%d", i))))
		p.Flows = append(p.Flows, by(4+i, 3))
	}
	for range events - 5 - 7*32 {
		p.Flows = append(p.Flows, by(1, 3))
	}
	return p
}

// P15.2: 256 events are done, 257 are not, whether the command makes them all or some
// were there ahead of it.
func TestEvents(t *testing.T) {
	w := open(t, crowd(256))
	if err := w.Create("p", nil); err != api.OK || len(w.Events()) != 256 {
		t.Errorf("256: %d, %d events", err, len(w.Events()))
	}
	w.mustTell(t, "256", w.Events())
	w.mustRefuse(t, "one more", w.cancel(1), api.ErrLong)
	w = open(t, crowd(257))
	w.mustRefuse(t, "257", w.create("p"), api.ErrLong)
	w = open(t, crowd(262))
	w.mustRefuse(t, "262", w.create("p"), api.ErrLong)
	w.mustDo(t, "fewer", w.deploy(line()), deployed(line()))

	for call, want := range map[string]int{"Deploy": 1, "Create": 5, "Complete": 3, "Resolve": 4, "Cancel": 1, "Timer": 3, "Arrive": 4} {
		for _, more := range []int{0, 1, 50} {
			w := busy(1, 50)
			for range 256 - want + more {
				w.Emit(api.Record{Kind: api.EDone})
			}
			what := fmt.Sprintf("%s, %d events", call, 256+more)
			if more > 0 {
				w.mustRefuse(t, what, w.done()[call], api.ErrLong)
			} else if err := w.done()[call](); err != api.OK || len(w.Events()) != 256 {
				t.Errorf("%s: %d, %d", what, err, len(w.Events()))
			}
		}
	}
	w = busy(1, 50)
	for range 300 {
		w.Emit(api.Record{Kind: api.EEntered, Key: w.Key(), Key2: 1})
	}
	if len(w.Events()) != 300 || len(w.State().Tokens) != 301 {
		t.Errorf("Emit has no bound: %d, %d", len(w.Events()), len(w.State().Tokens))
	}
	w.mustRefuse(t, "behind 300", w.cancel(1), api.ErrLong)
	w.mustRefuse(t, "another error", w.cancel(99), api.ErrNone)
}

// letters is a process of which an instance waits for messages 57 times: a start 0, an
// NAnd 1 that leads 19 times to the NCatch 2, at which two more sit, and the end 3.
func letters() api.Process {
	p := process([]api.Node{node(api.NStart, "s"), node(api.NAnd, "a"), node(api.NCatch, "c"), node(api.NEnd, "e"), at(2, node(api.NOnMsg, "m")), at(2, node(api.NOnMsg, "n"))},
		by(0, 1), by(2, 3), by(4, 3), by(5, 3))
	for range 19 {
		p.Flows = append(p.Flows, by(1, 2))
	}
	return p
}

// size is how many bytes the events have.
func size(t *testing.T, l []api.Record) int {
	t.Helper()
	n := 0
	for _, r := range l {
		s, err := rec.Bytes(r)
		if err != api.OK {
			t.Fatalf("%d: %+v", err, r)
		}
		n += len(s)
	}
	return n
}

// P15.2: 60000 bytes are done, 60001 are not, whether the command makes them all or
// some were there ahead of it.
func TestBytes(t *testing.T) {
	vars := func(n int) []api.Var {
		return []api.Var{text("k", strings.Repeat("k", 1000)), text("z", strings.Repeat("z", n))}
	}
	w := open(t, letters())
	if err := w.Create("p", vars(500)); err != api.OK {
		t.Fatal(err)
	}
	if len(w.State().Subs) != 57 {
		t.Fatalf("%+v", w.State())
	}
	n := 500 + 60000 - size(t, w.Events())
	if n < 200 || n > 1023 {
		t.Fatalf("%d", n)
	}
	w = open(t, letters())
	w.mustRefuse(t, "60001", w.create("p", vars(n+1)...), api.ErrLong)
	if err := w.Create("p", vars(n)); err != api.OK || size(t, w.Events()) != 60000 {
		t.Errorf("60000: %d, %d", err, size(t, w.Events()))
	}
	w.mustRefuse(t, "one more", w.cancel(1), api.ErrLong)

	ahead := func(n int) work {
		w := busy(1, 50)
		for range 58 {
			w.Emit(api.Record{Kind: api.EDone, B: strings.Repeat("b", 1000)})
		}
		w.Emit(api.Record{Kind: api.EDone, B: strings.Repeat("b", 400), C: strings.Repeat("c", 20)})
		w.Emit(api.Record{Kind: api.EDone, B: strings.Repeat("b", n)})
		return w
	}
	for call := range busy(1, 50).done() {
		w := ahead(200)
		if err := w.done()[call](); err != api.OK {
			t.Errorf("%s: %d", call, err)
		}
		n := 200 + 60000 - size(t, w.Events())
		w = ahead(n + 1)
		w.mustRefuse(t, call+", 60001", w.done()[call], api.ErrLong)
		w = ahead(n)
		if err := w.done()[call](); err != api.OK || size(t, w.Events()) != 60000 {
			t.Errorf("%s, 60000: %d, %d", call, err, size(t, w.Events()))
		}
	}
}

// P15.2, R1: of a state with very many tokens, which no command can take off, the call
// ends soon, and nothing has changed.
func TestVeryManyTokens(t *testing.T) {
	s := odd()
	for i := range 20000 {
		s.Tokens = append(s.Tokens, api.Token{Key: uint64(100 + i), Inst: 1, Scope: uint64(101 + i), Node: 1})
	}
	s.Tokens = append(s.Tokens, api.Token{Key: 20100, Inst: 1, Scope: 2, Node: 1})
	w := flow.Begin(s, 0, 9, 50)
	if err := w.Timer(2, 3); err != api.ErrLong || len(w.Events()) != 0 || len(w.State().Tokens) != 20002 {
		t.Errorf("%d, %d events", err, len(w.Events()))
	}
	if err := w.Resolve(2, nil); err != api.ErrLong || len(w.Events()) != 0 || len(w.State().Tokens) != 20002 {
		t.Errorf("%d, %d events", err, len(w.Events()))
	}
	if err := w.Complete(5, nil); err != api.OK || len(w.Events()) != 3 || len(w.State().Tokens) != 0 {
		t.Errorf("%d, %d events", err, len(w.Events()))
	}
}
