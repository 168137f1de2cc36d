package flow

import (
	"slices"

	"wherry/api"
	"wherry/fold"
	"wherry/model"
	"wherry/rec"
)

const none = -1 // the flow by which nobody came, the scope of the whole of a process

// command does one. Where it is refused, what it has told so far is taken back.
func (w *Work) command(do func() api.Errno) api.Errno {
	if w == nil {
		return api.ErrArg
	}
	before := *w
	err := do()
	if err == api.OK && !fit(w.events) {
		err = api.ErrLong
	}
	if err != api.OK {
		*w = before
	}
	return err
}

// fit: can events be one batch of a log?
func fit(l []api.Record) bool {
	if len(l) > api.MaxBatch {
		return false
	}
	bytes := 0
	for _, r := range l {
		s, err := rec.Bytes(r)
		if err != api.OK {
			return false
		}
		bytes += len(s)
	}
	return bytes <= api.MaxBytes
}

// tell emits what a command does. Once there are too many events it is refused
// whatever follows: folding these would only take time, for some states very much.
func (w *Work) tell(r api.Record) {
	if len(w.events) <= api.MaxBatch {
		w.Emit(r)
	}
}

func (w *Work) instance(key uint64) (api.Instance, bool) {
	return first(w.state.Insts, func(x api.Instance) bool { return x.Key == key })
}

// process is the one that is deployed under an id, if it may be.
func (w *Work) process(id string) (api.Process, bool) {
	d, has := first(w.state.Procs, func(x api.Deployed) bool { return x.Id == id })
	if !has {
		return api.Process{}, false
	}
	p, err := processOf(d.Bytes)
	return p, err == api.OK
}

func processOf(bytes string) (api.Process, api.Errno) {
	p, err := model.Take(bytes)
	if err != api.OK {
		return api.Process{}, err
	}
	if err, _ := model.Check(p); err != api.OK {
		return api.Process{}, err
	}
	return p, api.OK
}

// at is a token, and the walk that goes on from it.
func (w *Work) at(token uint64) (api.Token, *walk, api.Errno) {
	t, has := fold.Token(w.state, token)
	if !has {
		return api.Token{}, nil, api.ErrNone
	}
	inst, has := w.instance(t.Inst)
	if !has {
		return api.Token{}, nil, api.ErrNone
	}
	p, has := w.process(inst.Id)
	if !has {
		return api.Token{}, nil, api.ErrNone
	}
	if !isNode(p, t.Node) {
		return api.Token{}, nil, api.ErrState
	}
	return t, &walk{w: w, inst: t.Inst, p: p}, api.OK
}

// atNode is at, for what goes on by a node that is told.
func (w *Work) atNode(token uint64, node int) (api.Token, *walk, api.Errno) {
	t, k, err := w.at(token)
	if err == api.OK && !isNode(k.p, node) {
		return api.Token{}, nil, api.ErrState
	}
	return t, k, err
}

func isNode(p api.Process, node int) bool { return node >= 0 && node < len(p.Nodes) }

func first[T any](l []T, is func(x T) bool) (T, bool) {
	if i := slices.IndexFunc(l, is); i >= 0 {
		return l[i], true
	}
	var zero T
	return zero, false
}

// owned is a record whose list nobody else has.
func owned(r api.Record) api.Record {
	r.Vars = append([]api.Var(nil), r.Vars...)
	return r
}
