package fold_test

import (
	"math"
	"testing"

	"wherry/api"
	"wherry/fold"
)

// of is a record of a kind and a key, with other fields that must not count.
func of(kind int, key uint64) api.Record {
	return api.Record{Kind: kind, Time: 9, Key: key, Key2: 12, Key3: 12, N: 4, M: 4, A: "z", B: "z", C: "z", Vars: vars(1)}
}

// P13.1: a token that leaves, with its jobs, timers and subscriptions.
func TestLeft(t *testing.T) {
	mustFold(t, "with all", of(api.ELeft, 12), func(s *api.State) {
		s.Tokens = []api.Token{s.Tokens[0], s.Tokens[2]}
		s.Jobs = []api.Job{s.Jobs[0], s.Jobs[2]}
		s.Timers = []api.Timer{s.Timers[0], s.Timers[3]}
		s.Subs = []api.Sub{s.Subs[0], s.Subs[3]}
	})
	mustFold(t, "the first", of(api.ELeft, 10), func(s *api.State) {
		s.Tokens, s.Jobs, s.Timers, s.Subs = s.Tokens[1:], s.Jobs[1:], s.Timers[1:], s.Subs[1:]
	})
	bare := base()
	bare.Jobs, bare.Timers, bare.Subs = bare.Jobs[1:], bare.Timers[1:], nil
	mustFoldInto(t, "without", bare, of(api.ELeft, 10), func(s *api.State) { s.Tokens = s.Tokens[1:] })
	lost := base()
	lost.Tokens = lost.Tokens[1:]
	mustFoldInto(t, "none, but what was its", lost, of(api.ELeft, 10), func(s *api.State) {
		s.Jobs, s.Timers, s.Subs = s.Jobs[1:], s.Timers[1:], s.Subs[1:]
	})
	for _, key := range []uint64{0, 1, 5, 7, 11, 13, 20, 22, 31, 12 + 1<<32, math.MaxUint64} {
		mustFold(t, "not there", of(api.ELeft, key), nothing)
	}
	mustFoldInto(t, "no tokens", api.State{}, of(api.ELeft, 0), nothing)
}

// many has several elements of one key, with others between them.
func many() api.State {
	return api.State{
		Insts:  []api.Instance{{Key: 5, Id: "a"}, {Key: 6}, {Key: 5, Id: "b"}},
		Tokens: []api.Token{{Key: 3, Inst: 5}, {Key: 2, Inst: 6}, {Key: 3, Inst: 6, Node: 1}, {Key: 4, Inst: 5}, {Key: 5, Inst: 6}},
		Jobs:   []api.Job{{Key: 8, Token: 3}, {Key: 9, Token: 2}, {Key: 7, Token: 3}, {Key: 3, Token: 4}, {Key: 8, Token: 5}},
		Timers: []api.Timer{{Token: 3, Node: 2}, {Token: 4}, {Token: 2}, {Token: 3, Node: 2, When: 1}, {Token: 5}, {Token: 3, Node: 1}},
		Subs:   []api.Sub{{Token: 4, Inst: 6}, {Token: 3, Node: 2}, {Token: 2, Inst: 5}, {Token: 3, Node: 2, Open: true}, {Token: 5}, {Token: 3}},
		Kept:   []api.Kept{{Token: 3}, {Token: 4, Node: 1}, {Token: 3}},
		Listed: []api.Listed{{Token: 3, Inst: 5}, {Token: 4, Node: 2, Inst: 5}, {Token: 3, Inst: 6}},
		Messages: []api.Message{
			{Key: 5, Insts: []uint64{5, 6}}, {Key: 3}, {Key: 5, Id: "z"}, {Key: 6, Insts: []uint64{5}},
		},
	}
}

// P13.1: all elements that are so are taken away, where they stand several times;
// the others stay in their order.
func TestAwayOfMany(t *testing.T) {
	mustFoldInto(t, "ELeft", many(), of(api.ELeft, 3), func(s *api.State) {
		s.Tokens = []api.Token{{Key: 2, Inst: 6}, {Key: 4, Inst: 5}, {Key: 5, Inst: 6}}
		s.Jobs = []api.Job{{Key: 9, Token: 2}, {Key: 3, Token: 4}, {Key: 8, Token: 5}}
		s.Timers = []api.Timer{{Token: 4}, {Token: 2}, {Token: 5}}
		s.Subs = []api.Sub{{Token: 4, Inst: 6}, {Token: 2, Inst: 5}, {Token: 5}}
	})
	for _, kind := range []int{api.EEnded, api.ECancelled} {
		mustFoldInto(t, "an instance", many(), of(kind, 5), func(s *api.State) {
			s.Insts = []api.Instance{{Key: 6}}
			s.Tokens = []api.Token{{Key: 2, Inst: 6}, {Key: 3, Inst: 6, Node: 1}, {Key: 5, Inst: 6}}
			s.Jobs = []api.Job{{Key: 9, Token: 2}, {Key: 8, Token: 5}}
			s.Timers = []api.Timer{{Token: 2}, {Token: 5}}
			s.Subs = []api.Sub{{Token: 2, Inst: 5}, {Token: 5}}
		})
	}
	mustFoldInto(t, "EExpired", many(), of(api.EExpired, 5), func(s *api.State) { s.Messages = []api.Message{s.Messages[1], s.Messages[3]} })
	matched := of(api.EMatched, 3)
	matched.N = 0
	mustFoldInto(t, "EMatched", many(), matched, func(s *api.State) { s.Listed = s.Listed[1:2] })
}

// P13.1: an instance that ends, or is cancelled, with its tokens and what they had;
// its messages and listed places stay.
func TestEndedAndCancelled(t *testing.T) {
	for _, kind := range []int{api.EEnded, api.ECancelled} {
		mustFold(t, "with two tokens", of(kind, 5), func(s *api.State) {
			s.Insts = s.Insts[1:]
			s.Tokens, s.Jobs = s.Tokens[1:2], s.Jobs[1:2]
			s.Timers, s.Subs = s.Timers[1:3], s.Subs[1:3]
		})
		mustFold(t, "with one token", of(kind, 7), func(s *api.State) {
			s.Insts = s.Insts[:1]
			s.Tokens = []api.Token{s.Tokens[0], s.Tokens[2]}
			s.Jobs = []api.Job{s.Jobs[0], s.Jobs[2]}
			s.Timers = []api.Timer{s.Timers[0], s.Timers[3]}
			s.Subs = []api.Sub{s.Subs[0], s.Subs[3]}
		})
		bare := base()
		bare.Jobs, bare.Timers, bare.Subs = nil, nil, nil
		mustFoldInto(t, "whose tokens have nothing", bare, of(kind, 7), func(s *api.State) {
			s.Insts = s.Insts[:1]
			s.Tokens = []api.Token{s.Tokens[0], s.Tokens[2]}
		})
		idle := base()
		idle.Insts = append(idle.Insts, api.Instance{Key: 9})
		mustFoldInto(t, "without tokens", idle, of(kind, 9), func(s *api.State) { s.Insts = s.Insts[:2] })
		lost := base()
		lost.Insts = lost.Insts[1:]
		mustFoldInto(t, "none, but its tokens", lost, of(kind, 5), func(s *api.State) {
			s.Tokens, s.Jobs = s.Tokens[1:2], s.Jobs[1:2]
			s.Timers, s.Subs = s.Timers[1:3], s.Subs[1:3]
		})
		stray := base()
		stray.Tokens = stray.Tokens[1:]
		mustFoldInto(t, "what has no token stays", stray, of(kind, 5), func(s *api.State) {
			s.Insts = s.Insts[1:]
			s.Tokens = s.Tokens[:1]
			s.Jobs, s.Timers, s.Subs = s.Jobs[:2], s.Timers[:3], s.Subs[:3]
		})
		for _, key := range []uint64{0, 4, 6, 8, 10, 12, 20, 5 + 1<<32, math.MaxUint64} {
			mustFold(t, "not there", of(kind, key), nothing)
		}
		mustFoldInto(t, "no instances", api.State{}, of(kind, 0), nothing)
	}
}

// P13.1: messages that expire, and places that are matched.
func TestExpiredAndMatched(t *testing.T) {
	mustFold(t, "the first message", of(api.EExpired, 31), func(s *api.State) { s.Messages = s.Messages[1:] })
	mustFold(t, "the last message", of(api.EExpired, 33), func(s *api.State) { s.Messages = s.Messages[:1] })
	for _, key := range []uint64{0, 10, 12, 30, 32, 34, 31 + 1<<32} {
		mustFold(t, "no message", of(api.EExpired, key), nothing)
	}
	matched := func(key uint64, n int64) api.Record {
		r := of(api.EMatched, key)
		r.N, r.Key2 = n, 33
		return r
	}
	mustFold(t, "the first place", matched(10, 1), func(s *api.State) { s.Listed = s.Listed[1:] })
	mustFold(t, "one of two of a token", matched(12, 1), func(s *api.State) { s.Listed = []api.Listed{s.Listed[0], s.Listed[2]} })
	mustFold(t, "the other one", matched(12, 4), func(s *api.State) { s.Listed = s.Listed[:2] })
	for _, x := range []struct {
		key uint64
		n   int64
	}{{10, 0}, {10, 4}, {11, 1}, {5, 1}, {1, 10}, {33, 1}, {10, 1<<32 + 1}, {10 + 1<<32, 1}} {
		mustFold(t, "no place", matched(x.key, x.n), nothing)
	}
	mustFoldInto(t, "no messages", api.State{}, of(api.EExpired, 0), nothing)
	mustFoldInto(t, "no places", api.State{}, of(api.EMatched, 0), nothing)
}

// P13.1: a message that is on its way: the place has it, with its variables; the
// message has the place's instance behind its Insts, be it there or not.
func TestSending(t *testing.T) {
	sending := func(key uint64, n int64, message uint64) api.Record {
		return api.Record{Kind: api.ESending, Time: 9, Key: key, Key2: message, Key3: 7, N: n, M: 4, A: "z", B: "z", C: "z", Vars: vars(1)}
	}
	mustFold(t, "to a free place", sending(10, 1, 31), func(s *api.State) {
		s.Listed[0].Message, s.Listed[0].Vars = 31, vars(310)
		s.Messages[0].Insts = []uint64{5}
	})
	mustFold(t, "to a place that has another one", sending(12, 1, 31), func(s *api.State) {
		s.Listed[1].Message, s.Listed[1].Vars = 31, vars(310)
		s.Messages[0].Insts = []uint64{7}
	})
	mustFold(t, "to an instance that it came to", sending(12, 1, 33), func(s *api.State) { s.Messages[1].Insts = []uint64{7, 5, 7, 9, 7} })
	mustFold(t, "to another node of a token", sending(12, 4, 33), func(s *api.State) {
		s.Listed[2].Message, s.Listed[2].Vars = 33, vars(330)
		s.Messages[1].Insts = []uint64{7, 5, 7, 9, 8}
	})
	plain := base()
	plain.Messages[0].Vars = nil
	mustFoldInto(t, "without variables", plain, sending(12, 1, 31), func(s *api.State) {
		s.Listed[1].Message, s.Listed[1].Vars = 31, nil
		s.Messages[0].Insts = []uint64{7}
	})
	mustFold(t, "no place", sending(10, 2, 31), nothing)
	mustFold(t, "no place of the token", sending(14, 1, 31), nothing)
	mustFold(t, "no message", sending(10, 1, 32), nothing)
	mustFold(t, "no message 0", sending(12, 1, 0), nothing)
	mustFold(t, "neither", sending(11, 1, 32), nothing)
	mustFoldInto(t, "nothing at all", api.State{}, sending(0, 0, 0), nothing)
	zero := api.State{Listed: []api.Listed{{Inst: 3}}, Messages: []api.Message{{Vars: vars(2)}}}
	mustFoldInto(t, "keys that are 0", zero, sending(0, 0, 0), func(s *api.State) {
		s.Listed[0].Vars, s.Messages[0].Insts = vars(2), []uint64{3}
	})
}

// P13.1: a message that missed: the place is taken away, its instance is taken out
// of the message's Insts, however often it stands there.
func TestMissed(t *testing.T) {
	missed := func(key uint64, n int64, message uint64) api.Record {
		return api.Record{Kind: api.EMissed, Time: 9, Key: key, Key2: message, Key3: 5, N: n, M: 4, A: "z", B: "z", C: "z", Vars: vars(1)}
	}
	mustFold(t, "an instance that stands twice", missed(12, 1, 33), func(s *api.State) {
		s.Listed = []api.Listed{s.Listed[0], s.Listed[2]}
		s.Messages[1].Insts = []uint64{5, 9}
	})
	mustFold(t, "an instance that stands once", missed(10, 1, 33), func(s *api.State) {
		s.Listed = s.Listed[1:]
		s.Messages[1].Insts = []uint64{7, 7, 9}
	})
	mustFold(t, "an instance that isn't there", missed(12, 4, 33), func(s *api.State) { s.Listed = s.Listed[:2] })
	mustFold(t, "a message without instances", missed(12, 1, 31), func(s *api.State) { s.Listed = []api.Listed{s.Listed[0], s.Listed[2]} })
	mustFold(t, "no message", missed(12, 1, 34), func(s *api.State) { s.Listed = []api.Listed{s.Listed[0], s.Listed[2]} })
	mustFold(t, "no place", missed(12, 2, 33), nothing)
	mustFold(t, "no place of the token", missed(14, 1, 33), nothing)
	mustFold(t, "neither", missed(11, 1, 34), nothing)
	mustFoldInto(t, "nothing at all", api.State{}, missed(0, 0, 0), nothing)
	alone := api.State{Listed: []api.Listed{{Token: 1, Inst: 3}}, Messages: []api.Message{{Key: 2, Insts: []uint64{3, 3, 3}}}}
	mustFoldInto(t, "that instance alone", alone, missed(1, 0, 2), func(s *api.State) { s.Listed, s.Messages[0].Insts = nil, nil })
}

// P13.1: what was sent and missed leaves the message as it was.
func TestSentAndMissed(t *testing.T) {
	r := api.Record{Class: api.Event, Kind: api.ESending, From: 35, Key: 10, N: 1, Key2: 31}
	s := fold.Apply(base(), 41, r)
	r.Kind = api.EMissed
	s = fold.Apply(s, 42, r)
	want := base()
	want.Pos, want.Done, want.Listed = 42, 35, want.Listed[1:]
	if !alike(s, want) {
		t.Errorf("%+v, want %+v", s, want)
	}
}
