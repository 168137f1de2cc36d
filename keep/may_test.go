package keep_test

import (
	"fmt"
	"math"
	"testing"

	"wherry/api"
	"wherry/keep"
)

// ofKeys are states of one list, each by itself, whose elements have the keys.
func ofKeys() map[string]func(keys ...uint64) api.State {
	return map[string]func(keys ...uint64) api.State{
		"Insts": func(keys ...uint64) (s api.State) {
			for _, k := range keys {
				s.Insts = append(s.Insts, api.Instance{Key: k})
			}
			return s
		},
		"Tokens": func(keys ...uint64) (s api.State) {
			for _, k := range keys {
				s.Tokens = append(s.Tokens, api.Token{Key: k})
			}
			return s
		},
		"Jobs": func(keys ...uint64) (s api.State) {
			for _, k := range keys {
				s.Jobs = append(s.Jobs, api.Job{Key: k})
			}
			return s
		},
		"Messages": func(keys ...uint64) (s api.State) {
			for _, k := range keys {
				s.Messages = append(s.Messages, api.Message{Key: k})
			}
			return s
		},
	}
}

// place is a token and a node.
type place struct {
	token uint64
	node  int
}

// ofPlaces are states of one of the four lists, each by itself.
func ofPlaces() map[string]func(places ...place) api.State {
	return map[string]func(places ...place) api.State{
		"Timers": func(places ...place) (s api.State) {
			for _, p := range places {
				s.Timers = append(s.Timers, api.Timer{Token: p.token, Node: p.node})
			}
			return s
		},
		"Subs": func(places ...place) (s api.State) {
			for _, p := range places {
				s.Subs = append(s.Subs, api.Sub{Token: p.token, Node: p.node})
			}
			return s
		},
		"Kept": func(places ...place) (s api.State) {
			for _, p := range places {
				s.Kept = append(s.Kept, api.Kept{Token: p.token, Node: p.node})
			}
			return s
		},
		"Listed": func(places ...place) (s api.State) {
			for _, p := range places {
				s.Listed = append(s.Listed, api.Listed{Token: p.token, Node: p.node})
			}
			return s
		},
	}
}

// P14.1: lists rise by their keys, as numbers, each key only once.
func TestMayKeys(t *testing.T) {
	for list, of := range ofKeys() {
		for _, keys := range [][]uint64{
			{}, {0}, {top}, {0, 1}, {1, 2, 3}, {255, 256}, {127, 128}, {2, 1 << 8}, {1<<8 - 1, 1 << 8},
			{1<<16 - 1, 1 << 16}, {1<<32 - 1, 1 << 32}, {3, 1<<32 + 2, 1 << 40}, {1<<63 - 1, 1 << 63}, {0, top - 1, top},
		} {
			mustBe(t, fmt.Sprint(list, keys), of(keys...))
		}
		for _, keys := range [][]uint64{
			{0, 0}, {1, 1}, {top, top}, {1, 0}, {2, 1}, {256, 255}, {1 << 8, 2}, {1 << 16, 1<<16 - 1}, {1 << 32, 1},
			{1 << 63, 1}, {top, 0}, {1, 2, 2}, {1, 1, 2}, {1, 3, 2}, {2, 1, 3}, {1, 2, 1}, {1, 2, 3, 3}, {5, 6, 7, 4},
		} {
			mustNotBe(t, fmt.Sprint(list, keys), of(keys...))
		}
	}
}

// P14.1: the four lists rise by Token and, of one Token, by Node.
func TestMayPlaces(t *testing.T) {
	for list, of := range ofPlaces() {
		for _, l := range [][]place{
			{}, {{0, 0}}, {{top, 30000}}, {{1, 0}, {1, 1}}, {{1, 9}, {2, 3}}, {{1, 30000}, {2, 0}}, {{1, 255}, {1, 256}},
			{{1, 2}, {1, 256}}, {{255, 7}, {256, 7}}, {{2, 5}, {256, 5}}, {{1 << 63, 1}, {1 << 63, 2}, {top, 0}},
			{{1, 1}, {1, 2}, {2, 0}, {2, 1}, {3, 3}},
		} {
			mustBe(t, fmt.Sprint(list, l), of(l...))
		}
		for _, l := range [][]place{
			{{0, 0}, {0, 0}}, {{1, 2}, {1, 2}}, {{1, 2}, {1, 1}}, {{2, 1}, {1, 2}}, {{2, 1}, {1, 1}}, {{1, 256}, {1, 255}},
			{{1, 256}, {1, 2}}, {{256, 1}, {255, 2}}, {{256, 1}, {2, 5}}, {{top, 0}, {1, 30000}},
			{{1, 1}, {1, 2}, {1, 2}}, {{1, 1}, {2, 0}, {1, 2}}, {{1, 1}, {1, 3}, {1, 2}}, {{top, 7}, {top, 7}},
		} {
			mustNotBe(t, fmt.Sprint(list, l), of(l...))
		}
	}
}

// P14.1: Procs rise by their Ids, by their bytes.
func TestMayProcs(t *testing.T) {
	of := func(ids ...string) (s api.State) {
		for _, id := range ids {
			s.Procs = append(s.Procs, api.Deployed{Id: id, Bytes: "b"})
		}
		return s
	}
	for _, ids := range [][]string{{}, {""}, {"", "\x00"}, {"a", "b"}, {"B", "a"}, {"a", "a\x00"}, {"a", "aa", "b"}, {"10", "9"}, {"z", "\x80", "\xff"}, {long(31), long(32)}} {
		mustBe(t, fmt.Sprintf("%q", ids), of(ids...))
	}
	for _, ids := range [][]string{{"", ""}, {"a", "a"}, {"a", ""}, {"b", "a"}, {"a", "B"}, {"aa", "a"}, {"9", "10"}, {"\xff", "z"}, {"a", "b", "b"}, {"a", "c", "b"}, {"b", "a", "c"}, {long(32), long(31)}} {
		mustNotBe(t, fmt.Sprintf("%q", ids), of(ids...))
	}
}

// P14.1: a key that stands in two lists stands once in each.
func TestMayKeysOfOtherLists(t *testing.T) {
	mustBe(t, "one key in all lists", api.State{
		Insts: []api.Instance{{Key: 7}}, Tokens: []api.Token{{Key: 7, Inst: 7, Scope: 7}}, Jobs: []api.Job{{Key: 7, Token: 7}}, Messages: []api.Message{{Key: 7}},
		Timers: []api.Timer{{Token: 7}}, Subs: []api.Sub{{Token: 7}}, Kept: []api.Kept{{Token: 7}}, Listed: []api.Listed{{Token: 7}},
	})
	// The instances of a message are no list of the state: nobody says that they rise.
	mustBe(t, "instances that fall, and twice", api.State{Messages: []api.Message{{Key: 1, Insts: []uint64{9, 3, 3, 9, 0, top}}}})
	// What isn't there hinders nobody.
	mustBe(t, "of what isn't there", api.State{Pos: 1, Done: top, Made: 0, Tokens: []api.Token{{Key: 1, Inst: 99}}, Jobs: []api.Job{{Key: 2, Token: 98}}})
}

// P14.1: numbers at their bounds, and just outside.
func TestMayNumbers(t *testing.T) {
	type setter struct {
		what  string
		least int64
		set   func(s *api.State, n int)
	}
	for _, x := range []setter{
		{"a token's Node", -1, func(s *api.State, n int) { s.Tokens[1].Node = n }},
		{"the last token's Node", -1, func(s *api.State, n int) { s.Tokens[2].Node = n }},
		{"By", -1, func(s *api.State, n int) { s.Tokens[0].By = n }},
		{"the last By", -1, func(s *api.State, n int) { s.Tokens[2].By = n }},
		{"Retries", -1, func(s *api.State, n int) { s.Jobs[0].Retries = n }},
		{"the last Retries", -1, func(s *api.State, n int) { s.Jobs[1].Retries = n }},
		{"a timer's Node", 0, func(s *api.State, n int) { s.Timers[2].Node = n }},
		{"a sub's Node", 0, func(s *api.State, n int) { s.Subs = s.Subs[:1]; s.Subs[0].Node = n }},
		{"a kept one's Node", 0, func(s *api.State, n int) { s.Kept[2].Node = n }},
		{"a listed one's Node", 0, func(s *api.State, n int) { s.Listed[1].Node = n }},
		{"the first listed one's Node", 0, func(s *api.State, n int) { s.Listed[0].Node = n }},
	} {
		for _, n := range []int{-1, 0, 1, 255, 256, 29999, 30000} {
			s := with(func(s *api.State) { x.set(s, n) })
			if int64(n) < x.least {
				mustNotBe(t, fmt.Sprint(x.what, n), s)
			} else {
				mustBe(t, fmt.Sprint(x.what, n), s)
			}
		}
		for _, n := range []int{-2, -3, -30000, 30001, 32767, 32768, 65535, 65536, 65537, 1 << 31, 1 << 32, 1<<32 + 1, -1 << 32, 1<<48 + 5, math.MinInt, math.MaxInt} {
			mustNotBe(t, fmt.Sprint(x.what, n), with(func(s *api.State) { x.set(s, n) }))
		}
	}
}

// P14.1: times at their bounds, and just outside.
func TestMayTimes(t *testing.T) {
	for what, set := range map[string]func(s *api.State, n int64){
		"a job's Until":           func(s *api.State, n int64) { s.Jobs[0].Until = n },
		"the last job's Until":    func(s *api.State, n int64) { s.Jobs[1].Until = n },
		"When":                    func(s *api.State, n int64) { s.Timers[0].When = n },
		"the last When":           func(s *api.State, n int64) { s.Timers[2].When = n },
		"a message's Until":       func(s *api.State, n int64) { s.Messages[0].Until = n },
		"the last one's of these": func(s *api.State, n int64) { s.Messages[1].Until = n },
	} {
		for _, n := range []int64{0, 1, 63, 64, 1 << 32, 1 << 40, 1<<40 + 1, 1<<62 - 1, 1 << 62} {
			mustBe(t, fmt.Sprint(what, n), with(func(s *api.State) { set(s, n) }))
		}
		for _, n := range []int64{-1, -2, 1<<62 + 1, math.MaxInt64, math.MinInt64, math.MinInt64 + 1, -1 << 62} {
			mustNotBe(t, fmt.Sprint(what, n), with(func(s *api.State) { set(s, n) }))
		}
	}
}

// P14.1: keys and positions may be anything.
func TestMayAnyKeys(t *testing.T) {
	for _, n := range []uint64{0, 1, 127, 128, 1 << 32, 1 << 40, 1 << 62, 1<<62 + 1, 1 << 63, top} {
		mustBe(t, fmt.Sprint("keys of ", n), with(func(s *api.State) {
			s.Pos, s.Done, s.Made = n, n, n
			s.Tokens[0].Inst, s.Tokens[0].Scope = n, n
			s.Jobs[0].Token, s.Subs[0].Inst, s.Kept[0].Message = n, n, n
			s.Listed[0].Inst, s.Listed[0].Message = n, n
			s.Messages[0].Insts = []uint64{n, 1, n}
		}))
		mustBe(t, fmt.Sprint("Pos, Done and Made apart at ", n), api.State{Pos: n, Done: n / 2, Made: n / 3})
		mustBe(t, fmt.Sprint("Inst and Scope apart at ", n), api.State{Tokens: []api.Token{{Inst: n, Scope: n / 2}}, Listed: []api.Listed{{Inst: n, Message: n / 2}}})
	}
}

// P14.1: variables that are right, and that aren't.
func TestMayVariables(t *testing.T) {
	sixteen := func() (l []api.Var) {
		for i := range 16 {
			l = append(l, num(string(rune('a'+i)), int64(i)))
		}
		return l
	}
	for what, set := range map[string]func(s *api.State, l []api.Var){
		"an instance's":      func(s *api.State, l []api.Var) { s.Insts[0].Vars = l },
		"the last one's":     func(s *api.State, l []api.Var) { s.Insts[2].Vars = l },
		"a listed one's":     func(s *api.State, l []api.Var) { s.Listed[0].Vars = l },
		"the last listed's":  func(s *api.State, l []api.Var) { s.Listed[1].Vars = l },
		"a message's":        func(s *api.State, l []api.Var) { s.Messages[0].Vars = l },
		"the last message's": func(s *api.State, l []api.Var) { s.Messages[1].Vars = l },
	} {
		for _, l := range [][]api.Var{
			nil, {}, {num("a", 1)}, {num("a", math.MinInt64), num("b", math.MaxInt64)}, {truth("a", 0), truth("b", 1)},
			{text("a", ""), text("b", long(1024))}, {num(long(32), 1)}, sixteen(),
		} {
			mustBe(t, what, with(func(s *api.State) { set(s, l) }))
		}
		for _, l := range [][]api.Var{
			{{}}, {num("", 1)}, {num("A", 1)}, {num("and", 1)}, {num("b", 1), num("a", 1)}, {num("a", 1), num("a", 1)},
			{truth("a", 2)}, {truth("a", -1)}, {{Name: "a"}}, {{Name: "a", V: api.Value{Kind: 4}}}, {{Name: "a", V: api.Value{Kind: api.Int, S: "x"}}},
			{{Name: "a", V: api.Value{Kind: api.Text, N: 1}}}, {text("a", long(1025))}, {num(long(33), 1)}, append(sixteen(), num("q", 1)),
		} {
			mustNotBe(t, what, with(func(s *api.State) { set(s, l) }))
		}
	}
}

// P14.1: texts as long as they may be, and one byte longer.
func TestMayTexts(t *testing.T) {
	type setter struct {
		what string
		most int
		set  func(s *api.State, x string)
	}
	for _, x := range []setter{
		{"a process's Id", 32, func(s *api.State, x string) { s.Procs = s.Procs[:1]; s.Procs[0].Id = x }},
		{"the last process's Id", 32, func(s *api.State, x string) {
			s.Procs = s.Procs[:1]
			s.Procs = append(s.Procs, api.Deployed{Id: "z" + x[1:]})
		}},
		{"an instance's Id", 32, func(s *api.State, x string) { s.Insts[0].Id = x }},
		{"the last instance's Id", 32, func(s *api.State, x string) { s.Insts[2].Id = x }},
		{"Stuck", 32, func(s *api.State, x string) { s.Tokens[2].Stuck = x }},
		{"Type", 32, func(s *api.State, x string) { s.Jobs[0].Type = x }},
		{"Worker", 32, func(s *api.State, x string) { s.Jobs[1].Worker = x }},
		{"a sub's Name", 32, func(s *api.State, x string) { s.Subs[0].Name = x }},
		{"a sub's Key", 1024, func(s *api.State, x string) { s.Subs[1].Key = x }},
		{"a listed one's Name", 32, func(s *api.State, x string) { s.Listed[0].Name = x }},
		{"a listed one's Key", 1024, func(s *api.State, x string) { s.Listed[1].Key = x }},
		{"a message's Name", 32, func(s *api.State, x string) { s.Messages[0].Name = x }},
		{"For", 1024, func(s *api.State, x string) { s.Messages[1].For = x }},
		{"a message's Id", 32, func(s *api.State, x string) { s.Messages[1].Id = x }},
	} {
		for _, n := range []int{1, 31, 32, 33, 127, 128, 1023, 1024, 1025, 16382, 16384, 20000} {
			s := with(func(s *api.State) { x.set(s, long(n)) })
			if what := fmt.Sprint(x.what, " of ", n); n <= x.most {
				mustBe(t, what, s)
			} else {
				mustNotBe(t, what, s)
			}
		}
		mustBe(t, x.what+" of any bytes", with(func(s *api.State) { x.set(s, "\xff\x00A\"") }))
	}
}

// P14.1: values of MaxCell bytes, and of one more: a process's bytes, many variables,
// many instances.
func TestMayCells(t *testing.T) {
	bytes := func(n int) api.State { return api.State{Procs: []api.Deployed{{Id: "a"}, {Id: "p", Bytes: long(n)}}} }
	for _, n := range []int{0, 1, 127, 128, 8192, 8193, 16380, 16381, 16382} { // and 2 of the length
		mustBe(t, fmt.Sprint("a process of ", n), bytes(n))
	}
	for _, n := range []int{16383, 16384, 16385, 20000, 1 << 20} {
		mustNotBe(t, fmt.Sprint("a process of ", n), bytes(n))
	}
	// 15 variables of 1024 bytes have 1 + 15*1029 with those of their names, a
	// sixteenth of n bytes 5 + n more; that comes to n + 15441.
	vars := func(n int) (l []api.Var) {
		for i := range 15 {
			l = append(l, text(string(rune('a'+i)), long(1024)))
		}
		return append(l, text("p", long(n)))
	}
	for what, of := range map[string]struct {
		beside int
		state  func(n int) api.State
	}{
		"an instance":   {1, func(n int) api.State { return api.State{Insts: []api.Instance{{Key: 1}, {Key: 2, Vars: vars(n)}}} }},
		"a listed one":  {4, func(n int) api.State { return api.State{Listed: []api.Listed{{Token: 1}, {Token: 2, Vars: vars(n)}}} }},
		"a message":     {5, func(n int) api.State { return api.State{Messages: []api.Message{{Key: 1}, {Key: 2, Vars: vars(n)}}} }},
		"one with a Id": {33, func(n int) api.State { return api.State{Insts: []api.Instance{{Key: 2, Id: long(32), Vars: vars(n)}}} }},
	} {
		fits := api.MaxCell - of.beside - 15441
		for _, n := range []int{fits - 1, fits} {
			mustBe(t, fmt.Sprint(what, " ", n), of.state(n))
		}
		if l := written(of.state(fits)); len(l[len(l)-1].value) != api.MaxCell {
			t.Errorf("%s: %d bytes", what, len(l[len(l)-1].value))
		}
		mustNotBe(t, what, of.state(fits+1))
		mustNotBe(t, what, of.state(1024))
	}
	insts := func(n int, last uint64) api.State {
		l := make([]uint64, n)
		l[n-1] = last
		return api.State{Messages: []api.Message{{Key: 1, Insts: l}}}
	}
	mustBe(t, "many instances", insts(16377, 5)) // 3 texts, Until, Vars: 5 bytes; how many: 2
	mustBe(t, "with one that is longer", insts(16376, 128))
	mustNotBe(t, "one more", insts(16378, 5))
	mustNotBe(t, "one that is longer", insts(16377, 128))
	mustBe(t, "long ones", api.State{Messages: []api.Message{{Key: 1, Insts: tops(1637)}}})
	mustNotBe(t, "too many long ones", api.State{Messages: []api.Message{{Key: 1, Insts: tops(1638)}}})
	mustNotBe(t, "far too many", api.State{Messages: []api.Message{{Key: 1, Insts: tops(100000)}}})
}

func tops(n int) []uint64 {
	l := make([]uint64, n)
	for i := range l {
		l[i] = top
	}
	return l
}

// P14.1: of a state with several faults, and with one in any list while all others
// are right.
func TestMayFull(t *testing.T) {
	mustBe(t, "full", full())
	mustNotBe(t, "two faults", with(func(s *api.State) { s.Tokens[1].Node = -2; s.Jobs[1].Key = 1 }))
	if keep.May(with(func(s *api.State) { s.Tokens = append(s.Tokens, s.Tokens[0]) })) {
		t.Error("a token twice")
	}
}
