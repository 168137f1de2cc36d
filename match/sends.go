package match

import (
	"iter"

	"wherry/api"
	"wherry/fold"
)

// Pending are the commands that are to be sent.
func Pending(s api.State, parts int) iter.Seq2[int, api.Record] {
	// It may be ranged over when the lists that were handed in are others already.
	own := fold.Clone(api.State{Subs: s.Subs, Listed: s.Listed})
	return func(yield func(int, api.Record) bool) {
		for to, r := range opening(own.Subs, parts) {
			if !yield(to, r) {
				return
			}
		}
		for to, r := range matching(own.Listed) {
			if !yield(to, r) {
				return
			}
		}
	}
}

// opening: those by which places are listed.
func opening(l []api.Sub, parts int) iter.Seq2[int, api.Record] {
	return func(yield func(int, api.Record) bool) {
		for _, x := range l {
			r := api.Record{
				Class: api.Command, Kind: api.COpen,
				Key: x.Token, Key2: x.Inst, N: int64(x.Node), A: x.Name, B: x.Key,
			}
			if !x.Open && !yield(Shard(x.Key, parts), r) {
				return
			}
		}
	}
}

// matching: those by which messages come to places.
func matching(l []api.Listed) iter.Seq2[int, api.Record] {
	return func(yield func(int, api.Record) bool) {
		for _, x := range l {
			if x.Message == 0 {
				continue
			}
			r := api.Record{
				Class: api.Command, Kind: api.CMatch,
				Key: x.Token, Key2: x.Message, N: int64(x.Node),
				// Who is told may write into it, and it is told again and again.
				Vars: append([]api.Var(nil), x.Vars...),
			}
			if !yield(Home(x.Token), r) {
				return
			}
		}
	}
}

// Answers are a command's.
func Answers(s api.State, r api.Record) iter.Seq2[int, api.Record] {
	to, answer, has := answerOf(s, r)
	return func(yield func(int, api.Record) bool) {
		if has {
			yield(to, answer)
		}
	}
}

// answerOf is what a command is answered by, and where to; only these two are answered.
func answerOf(s api.State, r api.Record) (to int, answer api.Record, has bool) {
	if r.Class != api.Command {
		return 0, api.Record{}, false // Its kind is an event's, or a refusal's.
	}
	answer = api.Record{Class: api.Command, Key: r.Key, N: r.N}
	switch r.Kind {
	case api.COpen:
		answer.Kind = api.COpened
		return Home(r.Key), answer, true
	case api.CMatch:
		answer.Kind, answer.Key2 = api.CMissed, r.Key2
		if came(s, r) {
			answer.Kind = api.CMatched
		}
		return Home(r.Key2), answer, true
	}
	return 0, api.Record{}, false
}
