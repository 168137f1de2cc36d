package match

import (
	"iter"
	"slices"

	"wherry/api"
	"wherry/flow"
)

// place is where a message is waited for.
type place struct {
	token uint64
	node  int
}

func placeOf(r api.Record) place { return place{r.Key, int(r.N)} }

func listed(s api.State, p place) (api.Listed, bool) {
	return first(s.Listed, func(x api.Listed) bool { return place{x.Token, x.Node} == p })
}

// came: did a record's message come to its place?
func came(s api.State, r api.Record) bool {
	return slices.Contains(s.Kept, api.Kept{Token: r.Key, Message: r.Key2, Node: int(r.N)})
}

// identity is what tells a message from others to those who publish.
type identity struct{ name, key, id string }

func lives(w *flow.Work, m api.Message) bool { return m.Until > w.Now() }

func suits(m api.Message, l api.Listed) bool {
	return m.Name == l.Name && m.For == l.Key && l.Message == 0 &&
		len(m.Insts) < api.MaxInsts && !slices.Contains(m.Insts, l.Inst)
}

func sending(m api.Message, l api.Listed) api.Record {
	return api.Record{Kind: api.ESending, Key: l.Token, Key2: m.Key, N: int64(l.Node)}
}

// sendings ranges over what sends the message that is so to the listed places that it
// suits, each as it is when its turn comes: once it is sent to one, it suits no other
// one of that instance.
func sendings(w *flow.Work, is func(m api.Message) bool) iter.Seq[api.Record] {
	return func(yield func(api.Record) bool) {
		for from := 0; ; from++ {
			s := w.State()
			m, has := first(s.Messages, is)
			if !has {
				return
			}
			i := slices.IndexFunc(s.Listed[from:], func(l api.Listed) bool { return suits(m, l) })
			if i < 0 {
				return
			}
			from += i
			if !yield(sending(m, s.Listed[from])) {
				return
			}
		}
	}
}

// send sends the message that is so to that many places at most.
func send(w *flow.Work, most int, is func(m api.Message) bool) {
	sent := 0
	for r := range sendings(w, is) {
		w.Emit(r)
		if sent++; sent == most {
			return
		}
	}
}

// goOn: a message that lives goes to one place more.
func goOn(w *flow.Work, key uint64) {
	send(w, 1, func(m api.Message) bool { return m.Key == key && lives(w, m) })
}

func first[T any](l []T, is func(x T) bool) (T, bool) {
	if i := slices.IndexFunc(l, is); i >= 0 {
		return l[i], true
	}
	var zero T
	return zero, false
}
