package fold_test

import (
	"reflect"
	"slices"

	"wherry/api"
)

// tidy makes nil of all lists without elements, in a copy that shares nothing.
func tidy(v reflect.Value) reflect.Value {
	out := reflect.New(v.Type()).Elem()
	switch v.Kind() {
	case reflect.Slice:
		for i := range v.Len() {
			out = reflect.Append(out, tidy(v.Index(i)))
		}
	case reflect.Struct:
		for i := range v.NumField() {
			out.Field(i).Set(tidy(v.Field(i)))
		}
	default:
		out.Set(v)
	}
	return out
}

// deepCopy is x in other memory, whichever fields it has.
func deepCopy[T any](x T) T { return tidy(reflect.ValueOf(x)).Interface().(T) }

// alike: are all fields the same, whichever there are? An empty list is as good as
// none.
func alike[T any](a, b T) bool { return reflect.DeepEqual(deepCopy(a), deepCopy(b)) }

// laid is the list l with x put into it, by the words; cmp holds keys against each
// other.
func laid[T any](l []T, x T, cmp func(a, b T) int) []T {
	for i := range l {
		if cmp(l[i], x) == 0 {
			return slices.Concat(l[:i], []T{x}, l[i+1:])
		}
	}
	at := 0
	for at < len(l) && cmp(l[at], x) < 0 {
		at++
	}
	return slices.Concat(l[:at], []T{x}, l[at:])
}

// without is the list l without the elements that are so.
func without[T any](l []T, is func(x T) bool) []T {
	var out []T
	for _, x := range l {
		if !is(x) {
			out = append(out, x)
		}
	}
	return out
}

// hold is how a key stands to another.
func hold[K string | uint64 | int](a, b K) int {
	switch {
	case a < b:
		return -1
	case a > b:
		return 1
	}
	return 0
}

// holdPlace is how a token and a node stand to others: the token first.
func holdPlace(a, b uint64, m, n int) int {
	if a != b {
		return hold(a, b)
	}
	return hold(m, n)
}

// folded is what a record makes of a state, by the words of the promise.
func folded(s api.State, pos uint64, r api.Record) api.State {
	s, r = deepCopy(s), deepCopy(r)
	s.Pos = pos
	if r.Class != api.Event && r.Class != api.Refusal {
		return s
	}
	if r.From > s.Done {
		s.Done = r.From
	}
	if r.Class == api.Refusal {
		return s
	}
	if !foldedPut(&s, r) && !foldedChange(&s, r) {
		foldedAway(&s, r)
	}
	return deepCopy(s)
}

// foldedPut does what the kinds do that put.
func foldedPut(s *api.State, r api.Record) bool {
	n, m := int(r.N), int(r.M)
	switch r.Kind {
	case api.EDeployed:
		s.Procs = laid(s.Procs, api.Deployed{Id: r.A, Bytes: r.B}, func(a, b api.Deployed) int { return hold(a.Id, b.Id) })
	case api.EBegan:
		s.Insts = laid(s.Insts, api.Instance{Key: r.Key, Id: r.A, Vars: r.Vars}, func(a, b api.Instance) int { return hold(a.Key, b.Key) })
	case api.EEntered:
		s.Tokens = laid(s.Tokens, api.Token{Key: r.Key, Inst: r.Key2, Scope: r.Key3, Node: n, By: m}, func(a, b api.Token) int { return hold(a.Key, b.Key) })
	case api.EJob:
		s.Jobs = laid(s.Jobs, api.Job{Key: r.Key, Token: r.Key2, Type: r.A, Retries: n}, func(a, b api.Job) int { return hold(a.Key, b.Key) })
	case api.ETimer:
		s.Timers = laid(s.Timers, api.Timer{Token: r.Key, Node: n, When: r.M}, func(a, b api.Timer) int { return holdPlace(a.Token, b.Token, a.Node, b.Node) })
	case api.ESub:
		s.Subs = laid(s.Subs, api.Sub{Token: r.Key, Inst: r.Key2, Node: n, Name: r.A, Key: r.B}, func(a, b api.Sub) int { return holdPlace(a.Token, b.Token, a.Node, b.Node) })
	case api.EKept:
		s.Kept = laid(s.Kept, api.Kept{Token: r.Key, Message: r.Key2, Node: n}, func(a, b api.Kept) int { return holdPlace(a.Token, b.Token, a.Node, b.Node) })
	case api.EListed:
		s.Listed = laid(s.Listed, api.Listed{Token: r.Key, Inst: r.Key2, Node: n, Name: r.A, Key: r.B}, func(a, b api.Listed) int { return holdPlace(a.Token, b.Token, a.Node, b.Node) })
	case api.EPublished:
		s.Messages = laid(s.Messages, api.Message{Key: r.Key, Name: r.A, For: r.B, Id: r.C, Until: r.N, Vars: r.Vars}, func(a, b api.Message) int { return hold(a.Key, b.Key) })
	default:
		return false
	}
	switch r.Kind {
	case api.EBegan, api.EEntered, api.EJob, api.EPublished:
		s.Made++
	}
	return true
}

// listedOf and messageOf are the places of the first ones, -1 of none.
func listedOf(s *api.State, token uint64, node int) int {
	for i, x := range s.Listed {
		if x.Token == token && x.Node == node {
			return i
		}
	}
	return -1
}

func messageOf(s *api.State, key uint64) int {
	for i, x := range s.Messages {
		if x.Key == key {
			return i
		}
	}
	return -1
}

// foldedChange does what the kinds do that change elements alone.
func foldedChange(s *api.State, r api.Record) bool {
	switch r.Kind {
	case api.ETaken, api.EBack:
		for i := range s.Jobs {
			if x := &s.Jobs[i]; x.Key == r.Key {
				if r.Kind == api.ETaken {
					x.Worker, x.Until = r.A, r.N
				} else {
					x.Retries, x.Worker, x.Until = int(r.N), "", 0
				}
				break
			}
		}
	case api.EVars:
		for i := range s.Insts {
			if x := &s.Insts[i]; x.Key == r.Key {
				x.Vars = r.Vars
				break
			}
		}
	case api.EOpen:
		for i := range s.Subs {
			if x := &s.Subs[i]; x.Token == r.Key && x.Node == int(r.N) {
				x.Open = true
				break
			}
		}
	case api.EStuck, api.EFreed:
		for i := range s.Tokens {
			if x := &s.Tokens[i]; x.Key == r.Key {
				x.Stuck = map[int]string{api.EStuck: r.A}[r.Kind]
				break
			}
		}
	case api.ESending:
		l, m := listedOf(s, r.Key, int(r.N)), messageOf(s, r.Key2)
		if l >= 0 && m >= 0 {
			s.Listed[l].Message, s.Listed[l].Vars = r.Key2, s.Messages[m].Vars
			s.Messages[m].Insts = append(s.Messages[m].Insts, s.Listed[l].Inst)
		}
	default:
		return false
	}
	return true
}

// foldedAway does what the kinds do that take away.
func foldedAway(s *api.State, r api.Record) {
	at := func(x api.Listed) bool { return x.Token == r.Key && x.Node == int(r.N) }
	switch r.Kind {
	case api.ELeft:
		s.Tokens = without(s.Tokens, func(x api.Token) bool { return x.Key == r.Key })
		goneTokens(s, r.Key)
	case api.EEnded, api.ECancelled:
		var of []uint64
		for _, x := range s.Tokens {
			if x.Inst == r.Key {
				of = append(of, x.Key)
			}
		}
		s.Insts = without(s.Insts, func(x api.Instance) bool { return x.Key == r.Key })
		s.Tokens = without(s.Tokens, func(x api.Token) bool { return x.Inst == r.Key })
		goneTokens(s, of...)
	case api.EExpired:
		s.Messages = without(s.Messages, func(x api.Message) bool { return x.Key == r.Key })
	case api.EMatched:
		s.Listed = without(s.Listed, at)
	case api.EMissed:
		if l := listedOf(s, r.Key, int(r.N)); l >= 0 {
			inst := s.Listed[l].Inst
			s.Listed = without(s.Listed, at)
			if m := messageOf(s, r.Key2); m >= 0 {
				s.Messages[m].Insts = without(s.Messages[m].Insts, func(x uint64) bool { return x == inst })
			}
		}
	}
}

// goneTokens takes away what these tokens had.
func goneTokens(s *api.State, keys ...uint64) {
	s.Jobs = without(s.Jobs, func(x api.Job) bool { return slices.Contains(keys, x.Token) })
	s.Timers = without(s.Timers, func(x api.Timer) bool { return slices.Contains(keys, x.Token) })
	s.Subs = without(s.Subs, func(x api.Sub) bool { return slices.Contains(keys, x.Token) })
}
