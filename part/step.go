package part

import (
	"iter"

	"wherry/api"
	"wherry/book"
	"wherry/flow"
	"wherry/match"
	"wherry/rec"
)

// asked is a command of the log.
type asked struct {
	pos uint64
	r   api.Record
}

// outcome is what became of a command.
type outcome struct {
	err    api.Errno // by which it was refused
	events []api.Record
	jobs   []api.Job // that were given to a worker
}

// Step does the next command.
func (p *Part) Step() (bool, api.Errno) {
	if p == nil {
		return false, api.ErrArg
	}
	c, has := p.command()
	if !has {
		return false, api.OK
	}
	o := p.do(c)
	if _, err := p.add(o.records(c)); err != api.OK {
		return false, err
	}
	if c.r.Kind <= api.CResolve {
		p.replies = append(p.replies, o.reply(c))
	}
	p.answers = gather(p.answers, match.Answers(p.state, c.r))
	return true, api.OK
}

// command is the next one.
func (p *Part) command() (asked, bool) {
	for pos, bytes := range p.log.From(p.state.Done) {
		r, err := rec.Take(bytes)
		if pos > p.state.Done && err == api.OK && r.Class == api.Command {
			return asked{pos, r}, true
		}
	}
	return asked{}, false
}

func (p *Part) do(c asked) outcome {
	w := flow.Begin(p.state, p.id, c.pos, c.r.Time)
	var o outcome
	if do, has := deeds(w, c.r, &o.jobs)[c.r.Kind]; has {
		o.err = do()
	}
	if o.err == api.OK {
		o.events = w.Events()
	}
	return o
}

// deeds are what commands do, by their kinds; given are the jobs that a worker gets.
func deeds(w *flow.Work, r api.Record, given *[]api.Job) map[int]func() api.Errno {
	return map[int]func() api.Errno{
		api.CDeploy:   func() api.Errno { return w.Deploy(r.A) },
		api.CCreate:   func() api.Errno { return w.Create(r.A, r.Vars) },
		api.CComplete: func() api.Errno { return w.Complete(r.Key, r.Vars) },
		api.CFail:     func() api.Errno { return book.Fail(w, r.Key, r.N) },
		api.CActivate: func() (err api.Errno) {
			*given, err = book.Activate(w, r.A, r.B, r.N, r.M)
			return err
		},
		api.CPublish: func() api.Errno { return match.Publish(w, r) },
		api.CCancel:  func() api.Errno { return w.Cancel(r.Key) },
		api.CResolve: func() api.Errno { return w.Resolve(r.Key, r.Vars) },
		api.CTimer:   func() api.Errno { return w.Timer(r.Key, int(r.N)) },
		api.CLate:    func() api.Errno { return book.Late(w, r.Key) },
		api.CExpire:  func() api.Errno { return match.Expire(w, r.Key) },
		api.COpen:    func() api.Errno { return match.Open(w, r) },
		api.COpened:  func() api.Errno { return match.Opened(w, r) },
		api.CMatch:   func() api.Errno { return match.Match(w, r) },
		api.CMatched: func() api.Errno { return match.Matched(w, r) },
		api.CMissed:  func() api.Errno { return match.Missed(w, r) },
	}
}

// records are what the log is told of a command: without one of them it would be done
// again.
func (o outcome) records(c asked) []api.Record {
	if len(o.events) > 0 {
		return o.events
	}
	return []api.Record{{
		Class: api.Refusal, Kind: c.r.Kind, From: c.pos, Time: c.r.Time,
		Key: c.r.Key, N: int64(o.err),
	}}
}

// reply is what the client of a command is told.
func (o outcome) reply(c asked) api.Reply {
	told := api.Reply{Pos: c.pos, Kind: c.r.Kind, Err: o.err, Jobs: o.jobs}
	makes := c.r.Kind == api.CCreate || c.r.Kind == api.CPublish
	if makes && len(o.events) > 0 {
		told.Key = o.events[0].Key
	}
	return told
}

// gather puts sends behind others.
func gather(l []api.Send, told iter.Seq2[int, api.Record]) []api.Send {
	for to, r := range told {
		l = append(l, api.Send{To: to, R: r})
	}
	return l
}

// cutOff takes all that waits. Its room ends with it: nobody else's begins there.
func cutOff[T any](waiting *[]T) []T {
	n := len(*waiting)
	all := (*waiting)[:n:n]
	*waiting = nil
	return all
}
