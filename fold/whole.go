package fold

import (
	"slices"

	"wherry/api"
)

// Same: are two states the same?
func Same(a, b api.State) bool {
	return a.Pos == b.Pos && a.Done == b.Done && a.Made == b.Made &&
		slices.Equal(a.Procs, b.Procs) &&
		slices.EqualFunc(a.Insts, b.Insts, sameInst) &&
		slices.Equal(a.Tokens, b.Tokens) &&
		slices.Equal(a.Jobs, b.Jobs) &&
		slices.Equal(a.Timers, b.Timers) &&
		slices.Equal(a.Subs, b.Subs) &&
		slices.Equal(a.Kept, b.Kept) &&
		slices.EqualFunc(a.Listed, b.Listed, sameListed) &&
		slices.EqualFunc(a.Messages, b.Messages, sameMessage)
}

func sameInst(a, b api.Instance) bool {
	return a.Key == b.Key && a.Id == b.Id && slices.Equal(a.Vars, b.Vars)
}

func sameListed(a, b api.Listed) bool {
	return a.Token == b.Token && a.Inst == b.Inst && a.Node == b.Node &&
		a.Name == b.Name && a.Key == b.Key && a.Message == b.Message &&
		slices.Equal(a.Vars, b.Vars)
}

func sameMessage(a, b api.Message) bool {
	return a.Key == b.Key && a.Name == b.Name && a.For == b.For && a.Id == b.Id &&
		a.Until == b.Until && slices.Equal(a.Vars, b.Vars) && slices.Equal(a.Insts, b.Insts)
}

// Clone is the same state in other memory.
func Clone(s api.State) api.State {
	s.Procs = fresh(s.Procs)
	s.Insts = freshWithin(s.Insts, func(x *api.Instance) { x.Vars = fresh(x.Vars) })
	s.Tokens = fresh(s.Tokens)
	s.Jobs = fresh(s.Jobs)
	s.Timers = fresh(s.Timers)
	s.Subs = fresh(s.Subs)
	s.Kept = fresh(s.Kept)
	s.Listed = freshWithin(s.Listed, func(x *api.Listed) { x.Vars = fresh(x.Vars) })
	s.Messages = freshWithin(s.Messages, func(x *api.Message) {
		x.Vars, x.Insts = fresh(x.Vars), fresh(x.Insts)
	})
	return s
}
