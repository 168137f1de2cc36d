package part_test

import (
	"slices"
	"strings"
	"testing"

	"wherry/api"
	"wherry/disk"
	"wherry/fold"
	"wherry/model"
	"wherry/part"
	"wherry/rec"
	"wherry/seglog"
	"wherry/store"
)

func node(kind int, name string) api.Node {
	return api.Node{Kind: kind, Parent: -1, Host: -1, Name: name}
}

// chain is a process of a start, one node more, and an end.
func chain(id string, middle api.Node, cond string) string {
	return model.Bytes(api.Process{
		Id:    id,
		Nodes: []api.Node{node(api.NStart, "s"), middle, node(api.NEnd, "e")},
		Flows: []api.Flow{{From: 0, To: 1}, {From: 1, To: 2, Cond: cond}},
	})
}

// line waits for a job of type pay; catch for a message paid with the key s; wait for 10
// ticks; ways is stuck at its NXor unless a is above 1.
func line() string {
	n := node(api.NTask, "t")
	n.Type, n.N = "pay", 3
	return chain("line", n, "")
}
func catch() string {
	n := node(api.NCatch, "c")
	n.Type, n.Key = "paid", "s"
	return chain("catch", n, "")
}
func wait() string {
	n := node(api.NTimer, "w")
	n.N = 10
	return chain("wait", n, "")
}
func ways() string { return chain("ways", node(api.NXor, "x"), "a > 1") }

func num(name string, n int64) api.Var {
	return api.Var{Name: name, V: api.Value{Kind: api.Int, N: n}}
}
func text(name, s string) api.Var {
	return api.Var{Name: name, V: api.Value{Kind: api.Text, S: s}}
}

// What clients ask.
func deploy(bytes string) api.Record {
	return api.Record{Class: api.Command, Kind: api.CDeploy, A: bytes}
}
func create(id string, vars ...api.Var) api.Record {
	return api.Record{Class: api.Command, Kind: api.CCreate, A: id, Vars: vars}
}
func complete(job uint64, vars ...api.Var) api.Record {
	return api.Record{Class: api.Command, Kind: api.CComplete, Key: job, Vars: vars}
}
func activate(worker string, most, wait int64) api.Record {
	return api.Record{Class: api.Command, Kind: api.CActivate, A: "pay", B: worker, N: most, M: wait}
}
func publish(key, id string, lives int64, vars ...api.Var) api.Record {
	return api.Record{Class: api.Command, Kind: api.CPublish, A: "paid", B: key, C: id, N: lives, Vars: vars}
}

// of is a command of a kind and a key.
func of(kind int, key uint64) api.Record {
	return api.Record{Class: api.Command, Kind: kind, Key: key}
}

// with is a thing that is changed.
func with[T any](x T, change func(x *T)) T {
	change(&x)
	return x
}

// must holds what a call answered against what it should.
func must[T comparable](t *testing.T, what string, got, want T) {
	t.Helper()
	if got != want {
		t.Fatalf("%s: %v, want %v", what, got, want)
	}
}

// open is the partition 1 of two, at the time 100; openAt one on a disk at another.
func open(t *testing.T, d *disk.Disk) *part.Part { t.Helper(); return openAt(t, d, 100) }
func openAt(t *testing.T, d *disk.Disk, now int64) *part.Part {
	t.Helper()
	p, err := part.Open(d, 1, 2, 4096, now)
	if p == nil || err != api.OK {
		t.Fatalf("Open: %v %d", p, err)
	}
	return p
}

// key is the n-th key of the partition 1.
func key(n uint64) uint64 { return 1<<40 + n }

// ask asks for a command; do lets it be done, too.
func ask(t *testing.T, p *part.Part, r api.Record) uint64 {
	t.Helper()
	next := p.Next()
	pos, err := p.Ask(r)
	if pos != next || err != api.OK {
		t.Fatalf("Ask(%+v): %d %d, want %d", r, pos, err, next)
	}
	return pos
}
func do(t *testing.T, p *part.Part, r api.Record) uint64 {
	t.Helper()
	pos := ask(t, p, r)
	step(t, p)
	return pos
}

// step does the next command, all does all there are, and tells how many.
func step(t *testing.T, p *part.Part) {
	t.Helper()
	if is, err := p.Step(); !is || err != api.OK {
		t.Fatalf("Step: %v %d", is, err)
	}
}
func all(t *testing.T, p *part.Part) int {
	t.Helper()
	for n := 0; ; n++ {
		is, err := p.Step()
		must(t, "Step", err, api.OK)
		if !is {
			return n
		}
	}
}

func flush(t *testing.T, p *part.Part) ([]api.Reply, []api.Send) {
	t.Helper()
	replies, answers, err := p.Flush()
	must(t, "Flush", err, api.OK)
	must(t, "sure", p.Sure(), p.Next())
	return replies, answers
}

// records are all that the log has.
func records(t *testing.T, p *part.Part) []api.Record {
	t.Helper()
	var l []api.Record
	for pos := p.First(); pos < p.Next(); pos++ {
		r, err := p.Record(pos)
		must(t, "Record", err, api.OK)
		l = append(l, r)
	}
	return l
}

// folded is what records come to that stand from the position 1 on.
func folded(l []api.Record) api.State {
	var s api.State
	for i, r := range l {
		s = fold.Apply(s, uint64(i+1), r)
	}
	return s
}

// mustBe holds a partition's state against one.
func mustBe(t *testing.T, what string, p *part.Part, want api.State) {
	t.Helper()
	if got := p.State(); !fold.Same(got, want) {
		t.Fatalf("%s: the state\n%+v, want\n%+v", what, got, want)
	}
}

// mustTell holds the records behind a position against these.
func mustTell(t *testing.T, what string, p *part.Part, behind uint64, want ...api.Record) {
	t.Helper()
	got := records(t, p)[behind+1-p.First():]
	if !slices.EqualFunc(got, want, rec.Same) {
		t.Fatalf("%s:\n%+v, want\n%+v", what, got, want)
	}
}

func sameReply(a, b api.Reply) bool {
	return a.Pos == b.Pos && a.Kind == b.Kind && a.Err == b.Err && a.Key == b.Key && slices.Equal(a.Jobs, b.Jobs)
}

func sameSend(a, b api.Send) bool { return a.To == b.To && rec.Same(a.R, b.R) }

func mustReply(t *testing.T, what string, got []api.Reply, want ...api.Reply) {
	t.Helper()
	if !slices.EqualFunc(got, want, sameReply) {
		t.Fatalf("%s: the replies\n%+v, want\n%+v", what, got, want)
	}
}

func mustSend(t *testing.T, what string, got []api.Send, want ...api.Send) {
	t.Helper()
	if !slices.EqualFunc(got, want, sameSend) {
		t.Fatalf("%s: what is sent\n%+v, want\n%+v", what, got, want)
	}
}

// whole is all that a disk has: of each file its safe bytes and its rest.
func whole(d *disk.Disk) string {
	all, safe := d.Clone(), d.Clone()
	all.Crash(slices.Repeat([]int{api.MaxFile}, api.MaxFiles))
	safe.Crash(nil)
	var b strings.Builder
	for _, name := range all.Names() {
		bytes, _ := all.Read(name)
		kept, _ := safe.Read(name)
		b.WriteString(name + " " + kept + " | " + bytes[len(kept):] + "\n")
	}
	return b.String()
}

// lay writes a log by package seglog, batch by batch, and syncs it.
func lay(t *testing.T, d *disk.Disk, size int, batches ...[]string) *seglog.Log {
	t.Helper()
	l, err := seglog.Open(d, "log", size)
	must(t, "the log", err, api.OK)
	for _, b := range batches {
		_, err := l.Append(b)
		must(t, "a batch", err, api.OK)
	}
	must(t, "its flush", l.Flush(), api.OK)
	return l
}

// keepState lays a checkpoint of a state's rows down by package store.
func keepState(t *testing.T, d *disk.Disk, tag uint64, rows map[string]string) {
	t.Helper()
	s, err := store.Open(d, 1024, 4)
	must(t, "the store", err, api.OK)
	for k, v := range rows {
		must(t, "a row", s.Apply([]api.Change{{K: k, Cell: api.Cell{S: v}}}), api.OK)
	}
	must(t, "its checkpoint", s.Save(tag), api.OK)
}

// bytesOf are records' bytes, as one batch.
func bytesOf(t *testing.T, l ...api.Record) []string {
	t.Helper()
	var batch []string
	for _, r := range l {
		s, err := rec.Bytes(r)
		must(t, "bytes", err, api.OK)
		batch = append(batch, s)
	}
	return batch
}

// The chapter's example.
func TestExample(t *testing.T) {
	d := disk.New()
	p, err := part.Open(d, 0, 1, 4096, 0)
	must(t, "Open", err, api.OK)
	must(t, "Ask", ask(t, p, deploy(line())), 1)
	step(t, p)
	must(t, "Next", p.Next(), 3)
	replies, answers := flush(t, p)
	mustReply(t, "Flush", replies, api.Reply{Pos: 1, Kind: api.CDeploy})
	mustSend(t, "Flush", answers)
	d.Crash(nil)
	q, err := part.Open(d, 0, 1, 4096, 0)
	must(t, "Open again", err, api.OK)
	if l := q.State().Procs; !slices.Equal(l, []api.Deployed{{Id: "line", Bytes: line()}}) {
		t.Errorf("%+v", l)
	}
	must(t, "Next again", q.Next(), 3)
}

// A nil partition: ErrArg, the zero value, nothing, of each call.
func TestNil(t *testing.T) {
	var p *part.Part
	pos, err := p.Ask(deploy(line()))
	must(t, "Ask", pos, 0)
	must(t, "Ask", err, api.ErrArg)
	n, err := p.Due()
	must(t, "Due", n, 0)
	must(t, "Due", err, api.ErrArg)
	is, err := p.Step()
	must(t, "Step", is, false)
	must(t, "Step", err, api.ErrArg)
	replies, answers, err := p.Flush()
	must(t, "Flush", len(replies)+len(answers), 0)
	must(t, "Flush", err, api.ErrArg)
	must(t, "Retry", len(p.Retry()), 0)
	p.Tick(1)
	must(t, "Save", p.Save(), api.ErrArg)
	must(t, "Trim", p.Trim(1), api.ErrArg)
	mustBe(t, "State", p, api.State{})
	must(t, "Now", p.Now(), 0)
	must(t, "Next", p.Next(), 0)
	must(t, "Sure", p.Sure(), 0)
	must(t, "First", p.First(), 0)
	r, err := p.Record(1)
	must(t, "Record", err, api.ErrArg)
	must(t, "Record", rec.Same(r, api.Record{}), true)
}
