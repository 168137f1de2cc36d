package fold_test

import (
	"fmt"
	"math"
	"slices"
	"testing"

	"wherry/api"
	"wherry/fold"
)

// shelf is a list of the state, for tests that are the same for all lists. Its
// keys are numbers of three digits: of a place, the token and, in the last digit,
// the node.
type shelf struct {
	name string
	put  func(k int) api.Record             // an event that puts the key, with "new" in it
	fill func(s *api.State, keys ...int)    // elements of these keys, with "old" in them
	keys func(s api.State) (l, fresh []int) // all keys, and those of elements that are new
}

func tokenOf(k int) uint64         { return uint64(k / 10) }
func nodeOf(k int) int             { return k % 10 }
func numberOf(t uint64, n int) int { return int(t)*10 + n }
func idOf(k int) string            { return fmt.Sprintf("%03d", k) }

// told are the keys of a list, and those of its elements that are new.
func told[T any](l []T, key func(x T) int, isNew func(x T) bool) (all, fresh []int) {
	for _, x := range l {
		all = append(all, key(x))
		if isNew(x) {
			fresh = append(fresh, key(x))
		}
	}
	return all, fresh
}

func shelves() []shelf {
	return append(keyShelves(), placeShelves()...)
}

func keyShelves() []shelf {
	return []shelf{
		{"Procs", func(k int) api.Record { return api.Record{Kind: api.EDeployed, A: idOf(k), B: "new"} }, func(s *api.State, keys ...int) {
			for _, k := range keys {
				s.Procs = append(s.Procs, api.Deployed{Id: idOf(k), Bytes: "old"})
			}
		}, func(s api.State) (l, fresh []int) {
			return told(s.Procs, func(x api.Deployed) int { var k int; fmt.Sscanf(x.Id, "%d", &k); return k }, func(x api.Deployed) bool { return x.Bytes == "new" })
		}},
		{"Insts", func(k int) api.Record { return api.Record{Kind: api.EBegan, Key: uint64(k), A: "new"} }, func(s *api.State, keys ...int) {
			for _, k := range keys {
				s.Insts = append(s.Insts, api.Instance{Key: uint64(k), Id: "old"})
			}
		}, func(s api.State) (l, fresh []int) {
			return told(s.Insts, func(x api.Instance) int { return int(x.Key) }, func(x api.Instance) bool { return x.Id == "new" })
		}},
		{"Tokens", func(k int) api.Record { return api.Record{Kind: api.EEntered, Key: uint64(k), N: 77} }, func(s *api.State, keys ...int) {
			for _, k := range keys {
				s.Tokens = append(s.Tokens, api.Token{Key: uint64(k), Stuck: "old"})
			}
		}, func(s api.State) (l, fresh []int) {
			return told(s.Tokens, func(x api.Token) int { return int(x.Key) }, func(x api.Token) bool { return x.Node == 77 && x.Stuck == "" })
		}},
		{"Jobs", func(k int) api.Record { return api.Record{Kind: api.EJob, Key: uint64(k), A: "new"} }, func(s *api.State, keys ...int) {
			for _, k := range keys {
				s.Jobs = append(s.Jobs, api.Job{Key: uint64(k), Type: "old", Worker: "old", Until: 5})
			}
		}, func(s api.State) (l, fresh []int) {
			return told(s.Jobs, func(x api.Job) int { return int(x.Key) }, func(x api.Job) bool { return x.Type == "new" && x.Worker == "" && x.Until == 0 })
		}},
		{"Messages", func(k int) api.Record { return api.Record{Kind: api.EPublished, Key: uint64(k), A: "new"} }, func(s *api.State, keys ...int) {
			for _, k := range keys {
				s.Messages = append(s.Messages, api.Message{Key: uint64(k), Name: "old", Vars: vars(1), Insts: []uint64{1}})
			}
		}, func(s api.State) (l, fresh []int) {
			return told(s.Messages, func(x api.Message) int { return int(x.Key) }, func(x api.Message) bool { return x.Name == "new" && len(x.Vars)+len(x.Insts) == 0 })
		}},
	}
}

func placeShelves() []shelf {
	return []shelf{
		{"Timers", func(k int) api.Record {
			return api.Record{Kind: api.ETimer, Key: tokenOf(k), N: int64(nodeOf(k)), M: 77}
		}, func(s *api.State, keys ...int) {
			for _, k := range keys {
				s.Timers = append(s.Timers, api.Timer{Token: tokenOf(k), Node: nodeOf(k), When: 1})
			}
		}, func(s api.State) (l, fresh []int) {
			return told(s.Timers, func(x api.Timer) int { return numberOf(x.Token, x.Node) }, func(x api.Timer) bool { return x.When == 77 })
		}},
		{"Subs", func(k int) api.Record {
			return api.Record{Kind: api.ESub, Key: tokenOf(k), N: int64(nodeOf(k)), A: "new"}
		}, func(s *api.State, keys ...int) {
			for _, k := range keys {
				s.Subs = append(s.Subs, api.Sub{Token: tokenOf(k), Node: nodeOf(k), Name: "old", Open: true})
			}
		}, func(s api.State) (l, fresh []int) {
			return told(s.Subs, func(x api.Sub) int { return numberOf(x.Token, x.Node) }, func(x api.Sub) bool { return x.Name == "new" && !x.Open })
		}},
		{"Kept", func(k int) api.Record {
			return api.Record{Kind: api.EKept, Key: tokenOf(k), N: int64(nodeOf(k)), Key2: 77}
		}, func(s *api.State, keys ...int) {
			for _, k := range keys {
				s.Kept = append(s.Kept, api.Kept{Token: tokenOf(k), Node: nodeOf(k), Message: 1})
			}
		}, func(s api.State) (l, fresh []int) {
			return told(s.Kept, func(x api.Kept) int { return numberOf(x.Token, x.Node) }, func(x api.Kept) bool { return x.Message == 77 })
		}},
		{"Listed", func(k int) api.Record {
			return api.Record{Kind: api.EListed, Key: tokenOf(k), N: int64(nodeOf(k)), A: "new", Vars: vars(2)}
		}, func(s *api.State, keys ...int) {
			for _, k := range keys {
				s.Listed = append(s.Listed, api.Listed{Token: tokenOf(k), Node: nodeOf(k), Name: "old", Message: 1, Vars: vars(1)})
			}
		}, func(s api.State) (l, fresh []int) {
			return told(s.Listed, func(x api.Listed) int { return numberOf(x.Token, x.Node) }, func(x api.Listed) bool { return x.Name == "new" && x.Message == 0 && len(x.Vars) == 0 })
		}},
	}
}

// P13.1: where an element stands that is put into a list, of each of the lists: in
// the place of the first one of its key, or ahead of the first one above it.
func TestPut(t *testing.T) {
	for _, x := range []struct {
		what string
		l    []int
		k    int
		want []int
	}{
		{"into an empty list", nil, 150, []int{150}},
		{"ahead of all", []int{201, 303}, 150, []int{150, 201, 303}},
		{"between two", []int{101, 203}, 150, []int{101, 150, 203}},
		{"behind all", []int{101, 149}, 150, []int{101, 149, 150}},
		{"where there is one, first", []int{150, 203, 305}, 150, []int{150, 203, 305}},
		{"where there is one, between", []int{101, 150, 203}, 150, []int{101, 150, 203}},
		{"where there is one, last", []int{101, 149, 150}, 150, []int{101, 149, 150}},
		{"where there is one alone", []int{150}, 150, []int{150}},
		{"the least", []int{1, 2}, 0, []int{0, 1, 2}},
		{"ahead of other nodes of its token", []int{143, 153, 154}, 152, []int{143, 152, 153, 154}},
		{"between other nodes of its token", []int{145, 151, 155, 161}, 153, []int{145, 151, 153, 155, 161}},
		{"behind other nodes of its token", []int{151, 152, 160}, 159, []int{151, 152, 159, 160}},
		{"a lesser token, a greater node", []int{151, 152}, 149, []int{149, 151, 152}},
		{"a greater token, a lesser node", []int{151, 159}, 160, []int{151, 159, 160}},
		{"keys that fall", []int{303, 202, 101}, 250, []int{250, 303, 202, 101}},
		{"keys that fall, behind all", []int{303, 202, 101}, 350, []int{303, 202, 101, 350}},
		{"keys that rise and fall", []int{101, 303, 102, 304}, 150, []int{101, 150, 303, 102, 304}},
		{"the same key behind one above it", []int{303, 150, 101}, 150, []int{303, 150, 101}},
		{"the same key last, behind ones above it", []int{303, 204, 101, 150}, 150, []int{303, 204, 101, 150}},
		{"another one twice", []int{101, 101, 203, 203}, 150, []int{101, 101, 150, 203, 203}},
	} {
		for _, sh := range shelves() {
			s := base()
			s.Procs, s.Insts, s.Tokens, s.Jobs, s.Messages, s.Timers, s.Subs, s.Kept, s.Listed = nil, nil, nil, nil, nil, nil, nil, nil, nil
			sh.fill(&s, x.l...)
			r := sh.put(x.k)
			r.Class, r.From = api.Event, 1
			got := fold.Apply(s, 1, r)
			if l, fresh := sh.keys(got); !slices.Equal(l, x.want) || !slices.Equal(fresh, []int{x.k}) {
				t.Errorf("%s: %s: %d into %d: %d, new: %d", sh.name, x.what, x.k, x.l, l, fresh)
			}
			if !alike(got, folded(s, 1, r)) {
				t.Errorf("%s: %s: another list was changed: %+v", sh.name, x.what, got)
			}
		}
	}
}

// P13.1: of a key that stands several times, the first one's place is taken, and
// the others stay.
func TestPutOfAKeyThatStandsTwice(t *testing.T) {
	for _, sh := range shelves() {
		var s api.State
		sh.fill(&s, 303, 150, 101, 150)
		r := sh.put(150)
		r.Class, r.From = api.Event, 1
		got := fold.Apply(s, 1, r)
		if l, fresh := sh.keys(got); !slices.Equal(l, []int{303, 150, 101, 150}) || !slices.Equal(fresh, []int{150}) || !alike(got, folded(s, 1, r)) {
			t.Errorf("%s: %+v", sh.name, got)
		}
	}
}

// P13.1: Ids rise by their bytes.
func TestPutOfIds(t *testing.T) {
	var s api.State
	for _, id := range []string{"b", "", "a\xff", "ab", "\xff", "B", "a", "\x00", "\xc3\xa4", "b\x00", "z"} {
		s = fold.Apply(s, 1, api.Record{Class: api.Event, Kind: api.EDeployed, A: id, B: "of " + id})
	}
	var want []api.Deployed
	for _, id := range []string{"", "\x00", "B", "a", "ab", "a\xff", "b", "b\x00", "z", "\xc3\xa4", "\xff"} {
		want = append(want, api.Deployed{Id: id, Bytes: "of " + id})
	}
	if !slices.Equal(s.Procs, want) {
		t.Errorf("%q", s.Procs)
	}
}

// P13.1: keys at the bounds of their type rise as they are; nodes are ints, which
// may be below 0.
func TestPutAtBounds(t *testing.T) {
	var s api.State
	for _, k := range []uint64{1 << 63, 0, math.MaxUint64, 1<<63 - 1, 1, 1 << 40} {
		for _, kind := range []int{api.EBegan, api.EEntered, api.EJob, api.EPublished} {
			s = fold.Apply(s, 1, api.Record{Class: api.Event, Kind: kind, Key: k})
		}
		for _, n := range []int64{3, -1, 0, math.MaxInt64, math.MinInt64, 1 << 31, 1 << 32} {
			for _, kind := range []int{api.ETimer, api.ESub, api.EKept, api.EListed} {
				s = fold.Apply(s, 1, api.Record{Class: api.Event, Kind: kind, Key: k, N: n})
			}
		}
	}
	want := api.State{Pos: 1, Made: 24}
	for _, k := range []uint64{0, 1, 1 << 40, 1<<63 - 1, 1 << 63, math.MaxUint64} {
		want.Insts = append(want.Insts, api.Instance{Key: k})
		want.Tokens = append(want.Tokens, api.Token{Key: k})
		want.Jobs = append(want.Jobs, api.Job{Key: k})
		want.Messages = append(want.Messages, api.Message{Key: k})
		for _, n := range []int{math.MinInt, -1, 0, 3, 1 << 31, 1 << 32, math.MaxInt} {
			want.Timers = append(want.Timers, api.Timer{Token: k, Node: n})
			want.Subs = append(want.Subs, api.Sub{Token: k, Node: n})
			want.Kept = append(want.Kept, api.Kept{Token: k, Node: n})
			want.Listed = append(want.Listed, api.Listed{Token: k, Node: n})
		}
	}
	if !alike(s, want) {
		t.Errorf("%+v", s)
	}
}

// P13.1: which of a record's fields stand where in what is put, and no others; N
// and M as ints.
func TestPutFields(t *testing.T) {
	r := func(kind int, n, m int64) api.Record {
		return api.Record{Kind: kind, Time: 9, Key: 1, Key2: 2, Key3: 3, N: n, M: m, A: "a", B: "b", C: "c", Vars: vars(4)}
	}
	for _, n := range []int64{0, 1, -1, 1 << 40, math.MaxInt64, math.MinInt64} {
		m := n ^ 6
		for kind, change := range map[int]func(s *api.State){
			api.EDeployed: func(s *api.State) { s.Procs = []api.Deployed{{Id: "a", Bytes: "b"}} },
			api.EBegan: func(s *api.State) {
				s.Made, s.Insts = 1, []api.Instance{{Key: 1, Id: "a", Vars: vars(4)}}
			},
			api.EEntered: func(s *api.State) {
				s.Made, s.Tokens = 1, []api.Token{{Key: 1, Inst: 2, Scope: 3, Node: int(n), By: int(m)}}
			},
			api.EJob: func(s *api.State) {
				s.Made, s.Jobs = 1, []api.Job{{Key: 1, Token: 2, Type: "a", Retries: int(n)}}
			},
			api.ETimer:  func(s *api.State) { s.Timers = []api.Timer{{Token: 1, Node: int(n), When: m}} },
			api.ESub:    func(s *api.State) { s.Subs = []api.Sub{{Token: 1, Inst: 2, Node: int(n), Name: "a", Key: "b"}} },
			api.EKept:   func(s *api.State) { s.Kept = []api.Kept{{Token: 1, Message: 2, Node: int(n)}} },
			api.EListed: func(s *api.State) { s.Listed = []api.Listed{{Token: 1, Inst: 2, Node: int(n), Name: "a", Key: "b"}} },
			api.EPublished: func(s *api.State) {
				s.Made, s.Messages = 1, []api.Message{{Key: 1, Name: "a", For: "b", Id: "c", Until: n, Vars: vars(4)}}
			},
		} {
			mustFoldInto(t, fmt.Sprintf("kind %d, N %d", kind, n), api.State{}, r(kind, n, m), change)
		}
	}
}

// P13.1: what takes the place of another one of its key has nothing of it.
func TestPutInTheFullStatesPlaces(t *testing.T) {
	for _, x := range []struct {
		what   string
		r      api.Record
		change func(s *api.State)
	}{
		{"a process", api.Record{Kind: api.EDeployed, A: "q", B: "new"}, func(s *api.State) { s.Procs[1] = api.Deployed{Id: "q", Bytes: "new"} }},
		{"an instance", api.Record{Kind: api.EBegan, Key: 7, A: "r"}, func(s *api.State) { s.Insts[1], s.Made = api.Instance{Key: 7, Id: "r"}, 21 }},
		{"a token", api.Record{Kind: api.EEntered, Key: 12, Key2: 5}, func(s *api.State) { s.Tokens[1], s.Made = api.Token{Key: 12, Inst: 5}, 21 }},
		{"a job", api.Record{Kind: api.EJob, Key: 22, Key2: 10}, func(s *api.State) { s.Jobs[1], s.Made = api.Job{Key: 22, Token: 10}, 21 }},
		{"a timer", api.Record{Kind: api.ETimer, Key: 12, N: 4, M: -1}, func(s *api.State) { s.Timers[2] = api.Timer{Token: 12, Node: 4, When: -1} }},
		{"a subscription", api.Record{Kind: api.ESub, Key: 12, N: 1}, func(s *api.State) { s.Subs[1] = api.Sub{Token: 12, Node: 1} }},
		{"a message that came", api.Record{Kind: api.EKept, Key: 12, N: 1}, func(s *api.State) { s.Kept[1] = api.Kept{Token: 12, Node: 1} }},
		{"a listed place", api.Record{Kind: api.EListed, Key: 12, N: 1}, func(s *api.State) { s.Listed[1] = api.Listed{Token: 12, Node: 1} }},
		{"a message", api.Record{Kind: api.EPublished, Key: 33}, func(s *api.State) { s.Messages[1], s.Made = api.Message{Key: 33}, 21 }},
	} {
		mustFold(t, x.what, x.r, x.change)
	}
}
