package fold

import (
	"cmp"

	"wherry/api"
)

func kept(s *api.State, r api.Record) {
	x := api.Kept{Token: r.Key, Message: r.Key2, Node: int(r.N)}
	s.Kept = put(s.Kept, x, keptPlace, place.below)
}

func listed(s *api.State, r api.Record) {
	x := api.Listed{Token: r.Key, Inst: r.Key2, Node: int(r.N), Name: r.A, Key: r.B}
	s.Listed = put(s.Listed, x, listedPlace, place.below)
}

func published(s *api.State, r api.Record) {
	x := api.Message{Key: r.Key, Name: r.A, For: r.B, Id: r.C, Until: r.N, Vars: fresh(r.Vars)}
	s.Messages = put(s.Messages, x, messageKey, cmp.Less[uint64])
	s.Made++
}

func expired(s *api.State, r api.Record) {
	s.Messages = takeAway(s.Messages, of(messageKey, r.Key))
}

func sending(s *api.State, r api.Record) {
	at, message := of(listedPlace, placeOf(r)), of(messageKey, r.Key2)
	l, isListed := first(s.Listed, at)
	m, lives := first(s.Messages, message)
	if !isListed || !lives {
		return
	}
	change(s.Listed, at, func(x *api.Listed) { x.Message, x.Vars = m.Key, fresh(m.Vars) })
	change(s.Messages, message, func(x *api.Message) { x.Insts = append(x.Insts, l.Inst) })
}

func matched(s *api.State, r api.Record) {
	s.Listed = takeAway(s.Listed, of(listedPlace, placeOf(r)))
}

func missed(s *api.State, r api.Record) {
	at := of(listedPlace, placeOf(r))
	l, isListed := first(s.Listed, at)
	if !isListed {
		return
	}
	s.Listed = takeAway(s.Listed, at)
	change(s.Messages, of(messageKey, r.Key2), func(x *api.Message) {
		x.Insts = takeAway(x.Insts, func(inst uint64) bool { return inst == l.Inst })
	})
}
