package match_test

import (
	"fmt"
	"iter"
	"math"
	"slices"
	"testing"

	"wherry/api"
	"wherry/fold"
	"wherry/match"
	"wherry/rec"
)

// told is all that a range over sends tells.
func told(l iter.Seq2[int, api.Record]) []api.Send {
	var all []api.Send
	for to, r := range l {
		all = append(all, api.Send{To: to, R: r})
	}
	return all
}

func sameSend(a, b api.Send) bool { return a.To == b.To && rec.Same(a.R, b.R) }

func mustSend(t *testing.T, what string, l iter.Seq2[int, api.Record], want ...api.Send) {
	t.Helper()
	for range 2 {
		if got := told(l); !slices.EqualFunc(got, want, sameSend) {
			t.Errorf("%s:\n%+v, want\n%+v", what, got, want)
		}
	}
}

// mustBePending: these are to be sent, where there are so many partitions.
func mustBePending(t *testing.T, what string, s api.State, parts int, want ...api.Send) {
	t.Helper()
	before := fold.Clone(s)
	mustSend(t, what, match.Pending(s, parts), want...)
	if !fold.Same(s, before) {
		t.Errorf("%s: the state has changed", what)
	}
}

func copen(to int, token, inst uint64, node int64, name, key string) api.Send {
	return api.Send{To: to, R: api.Record{Class: api.Command, Kind: api.COpen, Key: token, Key2: inst, N: node, A: name, B: key}}
}
func cmatch(to int, token uint64, node int64, message uint64, vars ...api.Var) api.Send {
	return api.Send{To: to, R: api.Record{Class: api.Command, Kind: api.CMatch, Key: token, N: node, Key2: message, Vars: vars}}
}

// P17.7: nothing is to be sent of no subscriptions, open ones, places without messages.
func TestPendingNothing(t *testing.T) {
	for _, parts := range []int{-1, 0, 1, 4} {
		mustBePending(t, "the empty state", api.State{}, parts)
		mustBePending(t, "open ones", api.State{Subs: []api.Sub{isOpen(sub(1)), isOpen(sub(2))}}, parts)
		mustBePending(t, "places without messages", state([]api.Listed{at(1), with(at(2), func(l *api.Listed) { l.Vars = many(3) })}, of(3)), parts)
		s, _, _ := caught(t)
		s.Subs = nil
		s.Kept = []api.Kept{{Token: 1, Message: 2}}
		mustBePending(t, "all else", s, parts)
	}
}

// P17.7: subscriptions that aren't open, then messages on their way, each in its list's
// order, to the partition of the key and to the token's.
func TestPending(t *testing.T) {
	key := func(key string, x api.Sub) api.Sub {
		x.Key = key
		return x
	}
	s := state([]api.Listed{
		underway(at(1<<40+5), 9, num("a", 1), num("b", 2)), at(7), underway(at(2<<40+1), 1<<40+2), underway(at(8), math.MaxUint64, text("x", "")),
	}, of(3))
	s.Subs = []api.Sub{key("ab", sub(9)), isOpen(sub(3)), key("", sub(4)), sub(2), key(long(1024), sub(1))}
	s.Subs[2].Node, s.Listed[2].Node = 30000, 0
	for _, parts := range []int{1, 2, 3, 4, 1 << 40} {
		shard := func(key string) int { return int(sum(key) % uint64(parts)) }
		mustBePending(t, fmt.Sprint(parts, " partitions"), s, parts,
			copen(shard("ab"), 9, 1009, 4, "paid", "ab"), copen(0, 4, 1004, 30000, "paid", ""),
			copen(shard("k"), 2, 1002, 4, "paid", "k"), copen(shard(long(1024)), 1, 1001, 4, "paid", long(1024)),
			cmatch(1, 1<<40+5, 4, 9, num("a", 1), num("b", 2)), cmatch(2, 2<<40+1, 0, 1<<40+2), cmatch(0, 8, 4, math.MaxUint64, text("x", "")))
	}
	for _, parts := range []int{0, -1, math.MinInt} {
		mustBePending(t, fmt.Sprint(parts, " partitions"), api.State{Subs: s.Subs, Listed: s.Listed[:1]}, parts,
			copen(0, 9, 1009, 4, "paid", "ab"), copen(0, 4, 1004, 30000, "paid", ""), copen(0, 2, 1002, 4, "paid", "k"), copen(0, 1, 1001, 4, "paid", long(1024)),
			cmatch(1, 1<<40+5, 4, 9, num("a", 1), num("b", 2)))
	}
}

// P17.7: states that no command made: several elements of one place are each told, with
// their nodes, names and variables as they are.
func TestPendingOfOddStates(t *testing.T) {
	odd := []api.Var{num("B", 1), num("a", 1)}
	s := state([]api.Listed{underway(at(math.MaxUint64), 3, odd...), underway(at(7), 3), underway(at(7), 3), underway(at(7), 4)})
	s.Listed[0].Node, s.Listed[1].Node = math.MinInt, math.MaxInt
	s.Subs = []api.Sub{sub(9), sub(9), {Node: -1, Name: "No name", Key: long(3000)}, {Token: math.MaxUint64, Inst: math.MaxUint64, Node: math.MaxInt}}
	mustBePending(t, "odd", s, 3,
		copen(int(sum("k")%3), 9, 1009, 4, "paid", "k"), copen(int(sum("k")%3), 9, 1009, 4, "paid", "k"),
		copen(int(sum(long(3000))%3), 0, 0, -1, "No name", long(3000)), copen(0, math.MaxUint64, math.MaxUint64, math.MaxInt64, "", ""),
		cmatch(1<<24-1, math.MaxUint64, math.MinInt64, 3, odd...), cmatch(0, 7, math.MaxInt64, 3), cmatch(0, 7, 4, 3), cmatch(0, 7, 4, 4))
}

// P17.7: it is left at any place, and ranged over within itself.
func TestPendingIsLeft(t *testing.T) {
	s := state([]api.Listed{underway(at(1), 3), at(2), underway(at(4), 5, num("a", 1))})
	s.Subs = []api.Sub{sub(5), isOpen(sub(6)), sub(7)}
	all := match.Pending(s, 2)
	want := told(all)
	if len(want) != 4 {
		t.Fatal(want)
	}
	for n := 1; n <= 4; n++ {
		asked := 0
		all(func(to int, r api.Record) bool {
			if !sameSend(api.Send{To: to, R: r}, want[asked]) {
				t.Errorf("left at %d: %d %+v", n, to, r)
			}
			asked++
			return asked < n
		})
		if asked != n {
			t.Errorf("asked %d times, want %d", asked, n)
		}
	}
	pairs := 0
	for range all {
		for range all {
			pairs++
		}
	}
	if pairs != 16 {
		t.Error(pairs)
	}
	match.Pending(api.State{Subs: []api.Sub{sub(1)}}, 2)(func(int, api.Record) bool { return false })
}

// P17.7, R3: what is handed in isn't kept: it is told as it was; and what is told is new
// memory each time.
func TestPendingKeepsNothing(t *testing.T) {
	vars := append(make([]api.Var, 0, 4), num("a", 1), num("b", 2))
	s := state(append(make([]api.Listed, 0, 5), underway(at(1), 3, vars...)))
	s.Listed[0].Vars = vars
	s.Subs = append(make([]api.Sub, 0, 5), sub(7), sub(8))
	all := match.Pending(s, 1)
	want := []api.Send{copen(0, 7, 1007, 4, "paid", "k"), copen(0, 8, 1008, 4, "paid", "k"), cmatch(0, 1, 4, 3, num("a", 1), num("b", 2))}
	mustSend(t, "at first", all, want...)
	for _, r := range all {
		clear(r.Vars[:cap(r.Vars)])
	}
	mustSend(t, "when what was told is changed", all, want...)
	if !slices.Equal(vars[:4], []api.Var{num("a", 1), num("b", 2), {}, {}}) {
		t.Errorf("%+v", vars[:4])
	}
	clear(vars)
	s.Listed[0] = at(5)
	s.Subs[0] = isOpen(sub(9))
	mustSend(t, "when the state is changed", all, want...)
	l := told(match.Pending(state([]api.Listed{underway(at(1), 3, vars...), underway(at(2), 3, vars...)}), 1))
	clear(l[0].R.Vars[:cap(l[0].R.Vars)])
	if !slices.Equal(l[1].R.Vars, vars) {
		t.Error("what is told shares memory")
	}
}

// answer is a command that is one.
func answer(to int, kind int, token uint64, node int64, message uint64) api.Send {
	return api.Send{To: to, R: api.Record{Class: api.Command, Kind: kind, Key: token, N: node, Key2: message}}
}

// P17.8: a COpen is answered by COpened, to the token's partition, whatever the state.
func TestAnswersOfOpen(t *testing.T) {
	kept := api.State{Kept: []api.Kept{{Token: 2<<40 + 1, Node: 4, Message: 1007}}}
	for _, s := range []api.State{{}, state([]api.Listed{at(7)}, of(3)), kept} {
		mustSend(t, "a place", match.Answers(s, open(2<<40+1, 1007, 4, "paid", "k")), answer(2, api.COpened, 2<<40+1, 4, 0))
		mustSend(t, "zeros", match.Answers(s, open(0, 0, 0, "", "")), answer(0, api.COpened, 0, 0, 0))
		mustSend(t, "one that is refused", match.Answers(s, open(math.MaxUint64, 1, -1, "No", long(2000))), answer(1<<24-1, api.COpened, math.MaxUint64, -1, 0))
		full := open(7, 8, 1<<40, "paid", "k")
		full.From, full.Time, full.Key3, full.M, full.C, full.Vars = 1, 2, 3, 4, "c", many(2)
		mustSend(t, "all fields", match.Answers(s, full), answer(0, api.COpened, 7, 1<<40, 0))
	}
}

// P17.8: a CMatch is answered by CMatched, if its message is kept at its place, else by
// CMissed, to the message's partition.
func TestAnswersOfMatch(t *testing.T) {
	s := api.State{Kept: []api.Kept{
		{Token: 9, Node: 4, Message: 3<<40 + 7}, {Token: 1<<40 + 5, Node: 3, Message: 8}, {Token: 1<<40 + 5, Node: 4, Message: 3<<40 + 7},
		{Token: 1<<40 + 5, Node: 4, Message: 3<<40 + 6}, {},
	}}
	for _, x := range []struct {
		token   uint64
		node    int64
		message uint64
		kind    int
	}{
		{1<<40 + 5, 4, 3<<40 + 7, api.CMatched}, {1<<40 + 5, 4, 3<<40 + 6, api.CMatched}, {9, 4, 3<<40 + 7, api.CMatched}, {1<<40 + 5, 3, 8, api.CMatched},
		{0, 0, 0, api.CMatched}, {1<<40 + 5, 3, 3<<40 + 7, api.CMissed}, {1<<40 + 5, 5, 3<<40 + 7, api.CMissed}, {1<<40 + 5, -4, 3<<40 + 7, api.CMissed},
		{1<<40 + 5, 1<<32 + 4, 3<<40 + 7, api.CMissed}, {9, 4, 3<<40 + 6, api.CMissed}, {9, 4, 0, api.CMissed}, {8, 4, 3<<40 + 7, api.CMissed}, {math.MaxUint64, math.MinInt64, math.MaxUint64, api.CMissed},
	} {
		r := to(x.token, x.node, x.message, num("a", 1))
		mustSend(t, fmt.Sprintf("%+v", x), match.Answers(s, r), answer(int(x.message>>40), x.kind, x.token, x.node, x.message))
		r.Time, r.Key3, r.M, r.A, r.B, r.C = 2, 3, 4, "a", "b", "c"
		mustSend(t, fmt.Sprintf("%+v, all fields", x), match.Answers(s, r), answer(int(x.message>>40), x.kind, x.token, x.node, x.message))
		mustSend(t, fmt.Sprintf("%+v, nothing kept", x), match.Answers(api.State{Listed: []api.Listed{at(7)}}, r), answer(int(x.message>>40), api.CMissed, x.token, x.node, x.message))
	}
}

// P17.8: of all other commands, of events and refusals: nothing.
func TestAnswersOfOthers(t *testing.T) {
	s := api.State{Kept: []api.Kept{{Token: 7, Node: 4, Message: 3}}}
	for class := -1; class <= 5; class++ {
		for kind := -1; kind <= 30; kind++ {
			r := api.Record{Class: class, Kind: kind, Key: 7, N: 4, Key2: 3}
			if class == api.Command && (kind == api.COpen || kind == api.CMatch) {
				if len(told(match.Answers(s, r))) != 1 {
					t.Errorf("kind %d", kind)
				}
				continue
			}
			mustSend(t, fmt.Sprint("class ", class, ", kind ", kind), match.Answers(s, r))
		}
	}
	mustSend(t, "the zero record", match.Answers(s, api.Record{}))
}

// P17.8: it may be left, and tells of the state as it was.
func TestAnswersKeepNothing(t *testing.T) {
	s := api.State{Kept: []api.Kept{{Token: 7, Node: 4, Message: 3}}}
	l := match.Answers(s, to(7, 4, 3))
	s.Kept[0].Message = 5
	mustSend(t, "later", l, answer(0, api.CMatched, 7, 4, 3))
	asked := 0
	l(func(int, api.Record) bool {
		asked++
		return false
	})
	if asked != 1 {
		t.Error(asked)
	}
}
