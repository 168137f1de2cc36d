package part_test

import (
	"slices"
	"testing"

	"wherry/api"
	"wherry/book"
	"wherry/flow"
	"wherry/fold"
	"wherry/match"
	"wherry/part"
	"wherry/rec"
)

// plain is what a partition should be, the chapter's words taken one by one: all records
// that there ever were, and what waits.
type plain struct {
	id, parts int
	now       int64
	all       []api.Record // from the position 1 on
	ends      []int        // how many there were behind each batch
	state     api.State
	first     uint64 // what was trimmed is no next command
	sure      int    // so many at least
	replies   []api.Reply
	answers   []api.Send
}

func newPlain(id, parts int, now int64) *plain {
	return &plain{id: id, parts: parts, now: now, first: 1, ends: []int{0}}
}

func (m *plain) add(l ...api.Record) {
	for _, r := range l {
		m.all = append(m.all, r)
		m.state = fold.Apply(m.state, uint64(len(m.all)), r)
	}
	m.ends = append(m.ends, len(m.all))
}

func (m *plain) ask(r api.Record) bool {
	r.Time = m.now
	if r.Class != api.Command || !rec.May(r) {
		return false
	}
	m.add(r)
	return true
}

func (m *plain) due() int {
	l := book.Due(m.state, m.now)
	l = l[:min(256, len(l))]
	if len(l) > 0 {
		m.add(l...)
	}
	return len(l)
}

// next is the position of the next command, 0 if there is none.
func (m *plain) next() uint64 {
	for i, r := range m.all {
		pos := uint64(i + 1)
		if pos >= m.first && pos > m.state.Done && r.Class == api.Command {
			return pos
		}
	}
	return 0
}

// work does a command, and tells the jobs that it gave.
func work(w *flow.Work, r api.Record) ([]api.Job, api.Errno) {
	switch r.Kind {
	case api.CDeploy:
		return nil, w.Deploy(r.A)
	case api.CCreate:
		return nil, w.Create(r.A, r.Vars)
	case api.CComplete:
		return nil, w.Complete(r.Key, r.Vars)
	case api.CFail:
		return nil, book.Fail(w, r.Key, r.N)
	case api.CActivate:
		return book.Activate(w, r.A, r.B, r.N, r.M)
	case api.CPublish:
		return nil, match.Publish(w, r)
	case api.CCancel:
		return nil, w.Cancel(r.Key)
	case api.CResolve:
		return nil, w.Resolve(r.Key, r.Vars)
	case api.CTimer:
		return nil, w.Timer(r.Key, int(r.N))
	case api.CLate:
		return nil, book.Late(w, r.Key)
	case api.CExpire:
		return nil, match.Expire(w, r.Key)
	case api.COpen:
		return nil, match.Open(w, r)
	case api.COpened:
		return nil, match.Opened(w, r)
	case api.CMatch:
		return nil, match.Match(w, r)
	case api.CMatched:
		return nil, match.Matched(w, r)
	}
	return nil, match.Missed(w, r)
}

func (m *plain) step() bool {
	pos := m.next()
	if pos == 0 {
		return false
	}
	r := m.all[pos-1]
	w := flow.Begin(m.state, m.id, pos, r.Time)
	jobs, err := work(w, r)
	l := w.Events()
	x := api.Reply{Pos: pos, Kind: r.Kind, Err: err, Jobs: jobs}
	switch {
	case err != api.OK || len(l) == 0:
		l = []api.Record{{Class: api.Refusal, Kind: r.Kind, From: pos, Time: r.Time, Key: r.Key, N: int64(err)}}
	case r.Kind == api.CCreate, r.Kind == api.CPublish:
		x.Key = l[0].Key
	}
	m.add(l...)
	if r.Kind < api.CTimer {
		m.replies = append(m.replies, x)
	}
	for to, a := range match.Answers(m.state, r) {
		m.answers = append(m.answers, api.Send{To: to, R: a})
	}
	return true
}

func (m *plain) flush() ([]api.Reply, []api.Send) {
	m.sure = len(m.all)
	l, s := m.replies, m.answers
	m.replies, m.answers = nil, nil
	return l, s
}

func (m *plain) retry() []api.Send {
	var l []api.Send
	for to, r := range match.Pending(m.state, m.parts) {
		l = append(l, api.Send{To: to, R: r})
	}
	return l
}

// crash leaves n records: whole batches, and all that were sure.
func (m *plain) crash(t *testing.T, n int) {
	t.Helper()
	if n < m.sure || !slices.Contains(m.ends, n) {
		t.Fatalf("%d records of %d are left, of which %d were sure; the batches end at %d", n, len(m.all), m.sure, m.ends)
	}
	m.all = slices.Clone(m.all[:n])
	m.ends = slices.DeleteFunc(slices.Clone(m.ends), func(end int) bool { return end > n })
	m.state = folded(m.all)
	m.sure, m.replies, m.answers = n, nil, nil
}

// mustBe holds a partition against it.
func (m *plain) mustBe(t *testing.T, p *part.Part) {
	t.Helper()
	must(t, "Next", p.Next(), uint64(len(m.all)+1))
	must(t, "Now", p.Now(), m.now)
	if sure := p.Sure(); sure < uint64(m.sure+1) || sure > p.Next() {
		t.Fatalf("Sure: %d, want %d at least", sure, m.sure+1)
	}
	mustBe(t, "all records", p, m.state)
	for pos := p.First(); pos < p.Next(); pos++ {
		if r, err := p.Record(pos); err != api.OK || !rec.Same(r, m.all[pos-1]) {
			t.Fatalf("Record(%d): %d %+v, want %+v", pos, err, r, m.all[pos-1])
		}
	}
}
