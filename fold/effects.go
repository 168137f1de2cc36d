package fold

import (
	"cmp"

	"wherry/api"
)

// effect is what an event does to a state whose lists nobody else has.
type effect func(s *api.State, r api.Record)

// effects are those of the kinds that do something.
func effects() map[int]effect {
	return map[int]effect{
		api.EDeployed:  deployed,
		api.EBegan:     began,
		api.EEntered:   entered,
		api.ELeft:      left,
		api.EJob:       jobMade,
		api.ETaken:     jobTaken,
		api.EBack:      jobBack,
		api.EVars:      varsChanged,
		api.ETimer:     timerSet,
		api.ESub:       subSet,
		api.EOpen:      subOpened,
		api.EStuck:     stuck,
		api.EFreed:     freed,
		api.EEnded:     instGone,
		api.ECancelled: instGone,
		api.EKept:      kept,
		api.EListed:    listed,
		api.EPublished: published,
		api.EExpired:   expired,
		api.ESending:   sending,
		api.EMatched:   matched,
		api.EMissed:    missed,
	}
}

func deployed(s *api.State, r api.Record) {
	s.Procs = put(s.Procs, api.Deployed{Id: r.A, Bytes: r.B}, procId, cmp.Less[string])
}

func began(s *api.State, r api.Record) {
	x := api.Instance{Key: r.Key, Id: r.A, Vars: fresh(r.Vars)}
	s.Insts = put(s.Insts, x, instKey, cmp.Less[uint64])
	s.Made++
}

func varsChanged(s *api.State, r api.Record) {
	change(s.Insts, of(instKey, r.Key), func(x *api.Instance) { x.Vars = fresh(r.Vars) })
}

func instGone(s *api.State, r api.Record) {
	its := func(x api.Token) bool { return x.Inst == r.Key }
	gone := map[uint64]struct{}{}
	for _, x := range s.Tokens {
		if its(x) {
			gone[x.Key] = struct{}{}
		}
	}
	s.Insts = takeAway(s.Insts, of(instKey, r.Key))
	s.Tokens = takeAway(s.Tokens, its)
	waitNoMore(s, func(token uint64) bool {
		_, is := gone[token]
		return is
	})
}

// waitNoMore takes away what tokens wait for.
func waitNoMore(s *api.State, is func(token uint64) bool) {
	s.Jobs = takeAway(s.Jobs, func(x api.Job) bool { return is(x.Token) })
	s.Timers = takeAway(s.Timers, func(x api.Timer) bool { return is(x.Token) })
	s.Subs = takeAway(s.Subs, func(x api.Sub) bool { return is(x.Token) })
}

func entered(s *api.State, r api.Record) {
	x := api.Token{Key: r.Key, Inst: r.Key2, Scope: r.Key3, Node: int(r.N), By: int(r.M)}
	s.Tokens = put(s.Tokens, x, tokenKey, cmp.Less[uint64])
	s.Made++
}

func left(s *api.State, r api.Record) {
	s.Tokens = takeAway(s.Tokens, of(tokenKey, r.Key))
	waitNoMore(s, func(token uint64) bool { return token == r.Key })
}

func stuck(s *api.State, r api.Record) {
	change(s.Tokens, of(tokenKey, r.Key), func(x *api.Token) { x.Stuck = r.A })
}

func freed(s *api.State, r api.Record) {
	change(s.Tokens, of(tokenKey, r.Key), func(x *api.Token) { x.Stuck = "" })
}

func jobMade(s *api.State, r api.Record) {
	x := api.Job{Key: r.Key, Token: r.Key2, Type: r.A, Retries: int(r.N)}
	s.Jobs = put(s.Jobs, x, jobKey, cmp.Less[uint64])
	s.Made++
}

func jobTaken(s *api.State, r api.Record) {
	change(s.Jobs, of(jobKey, r.Key), func(x *api.Job) { x.Worker, x.Until = r.A, r.N })
}

func jobBack(s *api.State, r api.Record) {
	change(s.Jobs, of(jobKey, r.Key), func(x *api.Job) {
		x.Retries, x.Worker, x.Until = int(r.N), "", 0
	})
}

func timerSet(s *api.State, r api.Record) {
	x := api.Timer{Token: r.Key, Node: int(r.N), When: r.M}
	s.Timers = put(s.Timers, x, timerPlace, place.below)
}

func subSet(s *api.State, r api.Record) {
	x := api.Sub{Token: r.Key, Inst: r.Key2, Node: int(r.N), Name: r.A, Key: r.B}
	s.Subs = put(s.Subs, x, subPlace, place.below)
}

func subOpened(s *api.State, r api.Record) {
	change(s.Subs, of(subPlace, placeOf(r)), func(x *api.Sub) { x.Open = true })
}
