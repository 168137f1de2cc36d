package match_test

import (
	"fmt"
	"math"
	"slices"
	"testing"

	"wherry/api"
	"wherry/match"
)

// acks are the two calls that tell what became of a message, each with its event.
func acks() map[string]struct {
	do   call
	told func(token uint64, node int64, message uint64) api.Record
} {
	type ack = struct {
		do   call
		told func(token uint64, node int64, message uint64) api.Record
	}
	return map[string]ack{"Matched": {match.Matched, matched}, "Missed": {match.Missed, missed}}
}

// P17.5: Matched takes the place away, and the instance stays the message's; Missed
// takes both away.
func TestMatchedAndMissed(t *testing.T) {
	came := with(of(3), func(m *api.Message) { m.Insts = []uint64{5, 1007, 6} })
	gone := with(of(3), func(m *api.Message) { m.Insts = []uint64{5, 6} })
	s := state([]api.Listed{at(6), underway(at(7), 3, num("m", 3)), underway(at(8), 4)}, came)
	s.Listed[0].Inst = 5
	rest := []api.Listed{s.Listed[0], s.Listed[2]}
	w := begin(s)
	w.mustDo(t, "matched", match.Matched, to(7, 4, 3), matched(7, 4, 3))
	w.mustHold(t, "matched", rest, came)
	w.mustDo(t, "matched again", match.Matched, to(7, 4, 3), done())
	w.mustDo(t, "missed behind it", match.Missed, to(7, 4, 3), done())
	w.mustHold(t, "matched again", rest, came)

	w = begin(s)
	w.mustDo(t, "missed", match.Missed, to(7, 4, 3), missed(7, 4, 3))
	w.mustHold(t, "missed", rest, gone)
	w.mustDo(t, "missed again", match.Missed, to(7, 4, 3), done())
	w.mustDo(t, "matched behind it", match.Matched, to(7, 4, 3), done())
	w.mustHold(t, "missed again", rest, gone)
}

// P17.5: of a place that isn't listed, or has another message, or none, and of the
// message 0: EDone, and nothing goes on.
func TestAcknowledgeOfOthers(t *testing.T) {
	for what, ack := range acks() {
		s := state([]api.Listed{at(6), underway(at(7), 3), underway(with(at(7), func(l *api.Listed) { l.Node = 5 }), 4)}, of(3), of(4), of(0))
		w := begin(s)
		for _, r := range []api.Record{
			to(7, 4, 4), to(7, 4, 0), to(7, 4, math.MaxUint64), to(7, 5, 3), to(7, 5, 0), to(7, 3, 3), to(7, -1, 3), to(7, 1<<32+4, 3),
			to(6, 4, 3), to(6, 4, 0), to(8, 4, 3), to(0, 0, 0), to(0, 4, 3), to(3, 4, 7), to(1007, 4, 3),
		} {
			w.mustDo(t, fmt.Sprintf("%s %d %d %d", what, r.Key, r.N, r.Key2), ack.do, r, done())
		}
		begin(api.State{}).mustDo(t, what, ack.do, to(0, 0, 0), done())
	}
}

// P17.5: the message goes on to the first place that it suits, if it lives.
func TestGoesOn(t *testing.T) {
	underway7 := underway(at(7), 3, num("m", 3))
	insts := make([]uint64, 502)
	came := func(insts ...uint64) api.Message {
		return with(of(3), func(m *api.Message) { m.Insts = insts })
	}
	until := func(n int64) api.Message {
		return with(of(3), func(m *api.Message) { m.Until, m.Insts = n, []uint64{1007} })
	}
	inst := func(inst uint64, l api.Listed) api.Listed {
		l.Inst = inst
		return l
	}
	for what, x := range map[string]struct {
		l                []api.Listed
		m                []api.Message
		matched, missing uint64 // the tokens that it goes on to; 0: none
	}{
		"no other place":              {[]api.Listed{underway7}, []api.Message{came(1007)}, 0, 0},
		"one ahead of it":             {[]api.Listed{at(6), underway7}, []api.Message{came(1007)}, 6, 6},
		"one behind it":               {[]api.Listed{underway7, at(8)}, []api.Message{came(1007)}, 8, 8},
		"the first of several":        {[]api.Listed{at(9), underway7, at(6), at(5)}, []api.Message{came(1007)}, 9, 9},
		"it came there":               {[]api.Listed{at(6), underway7, at(8)}, []api.Message{came(1006, 1007)}, 8, 8},
		"it came to all":              {[]api.Listed{at(6), underway7, at(8)}, []api.Message{came(1006, 1007, 1008)}, 0, 0},
		"another one of the instance": {[]api.Listed{underway7, inst(1007, at(8)), at(9)}, []api.Message{came(1007)}, 9, 8},
		"one with a message":          {[]api.Listed{underway(at(6), 5), underway7, at(8)}, []api.Message{came(1007)}, 8, 8},
		"of another name":             {[]api.Listed{with(at(6), func(l *api.Listed) { l.Name = "ship" }), underway7}, []api.Message{came(1007)}, 0, 0},
		"of another key":              {[]api.Listed{with(at(6), func(l *api.Listed) { l.Key = "j" }), underway7, at(8)}, []api.Message{came(1007)}, 8, 8},
		"it lives":                    {[]api.Listed{at(6), underway7}, []api.Message{until(101)}, 6, 6},
		"it lives no more":            {[]api.Listed{at(6), underway7}, []api.Message{until(100)}, 0, 0},
		"it has been dead for long":   {[]api.Listed{at(6), underway7}, []api.Message{until(math.MinInt64)}, 0, 0},
		"there is none of the key":    {[]api.Listed{at(6), underway7}, []api.Message{of(2), of(4)}, 0, 0},
		"it came to 499":              {[]api.Listed{at(6), underway7}, []api.Message{came(append(insts[:498:498], 1007)...)}, 6, 6},
		"it came to 500":              {[]api.Listed{at(6), underway7}, []api.Message{came(append(insts[:499:499], 1007)...)}, 0, 6},
		"it came to 501":              {[]api.Listed{at(6), underway7}, []api.Message{came(append(insts[:500:500], 1007)...)}, 0, 0},
		"the instance twice, of 501":  {[]api.Listed{at(6), underway7}, []api.Message{came(append(insts[:499:499], 1007, 1007)...)}, 0, 6},
		"others live":                 {[]api.Listed{at(6), underway7}, []api.Message{of(2), came(1007), of(4)}, 6, 6},
	} {
		for how, ack := range acks() {
			w := begin(state(x.l, x.m...))
			want := []api.Record{ack.told(7, 4, 3)}
			next := x.matched
			if how == "Missed" {
				next = x.missing
			}
			if next != 0 {
				want = append(want, sending(next, 4, 3))
			}
			w.mustDo(t, how+", "+what, ack.do, to(7, 4, 3), want...)
			w.mustDo(t, how+", "+what+", again", ack.do, to(7, 4, 3), done())
		}
	}
}

// P17.5: states that no command made. The first listed element of the place is asked,
// and all of them are taken away; of messages of one key the first that lives goes on.
func TestAcknowledgeOfOddStates(t *testing.T) {
	for what, ack := range acks() {
		w := begin(state([]api.Listed{underway(at(7), 3), underway(at(7), 4), at(7), at(8)}))
		w.mustDo(t, what+": the second has it", ack.do, to(7, 4, 4), done())
		w.mustDo(t, what+": the first has it", ack.do, to(7, 4, 3), ack.told(7, 4, 3))
		w.mustHold(t, what, []api.Listed{at(8)})
		w = begin(state([]api.Listed{at(7), underway(at(7), 3)}, of(3)))
		w.mustDo(t, what+": the first has none", ack.do, to(7, 4, 3), done())

		dead := with(of(3), func(m *api.Message) { m.Until, m.Name = 100, "ship" })
		lost := with(of(3), func(m *api.Message) { m.For = "j" })
		l := []api.Listed{underway(at(7), 3), at(8)}
		w = begin(state(l, dead, of(3)))
		w.mustDo(t, what+": the second lives", ack.do, to(7, 4, 3), ack.told(7, 4, 3), sending(8, 4, 3))
		if m := w.State().Messages; !slices.Equal(m[0].Insts, []uint64{1008}) || len(m[1].Insts) != 0 {
			t.Errorf("%+v", m)
		}
		w = begin(state(l, lost, of(3)))
		w.mustDo(t, what+": the first that lives suits nothing", ack.do, to(7, 4, 3), ack.told(7, 4, 3))
		w = begin(state(l, dead, dead))
		w.mustDo(t, what+": none lives", ack.do, to(7, 4, 3), ack.told(7, 4, 3))

		node := func(n int, l api.Listed) api.Listed {
			l.Node = n
			return l
		}
		w = begin(state([]api.Listed{underway(node(-1, at(7)), 3), underway(node(math.MaxInt, at(7)), 3)}))
		w.mustDo(t, what+": a node below 0", ack.do, to(7, -1, 3), ack.told(7, -1, 3))
		w.mustDo(t, what+": a great node", ack.do, to(7, math.MaxInt64, 3), ack.told(7, math.MaxInt64, 3))
	}
}

// P17.6: a message expires when it lives no more.
func TestExpire(t *testing.T) {
	s := state([]api.Listed{underway(at(7), 3, num("m", 3))}, of(2), of(3), of(5))
	for _, now := range []int64{math.MinInt64, -1, 0, 100, 199} {
		beginAt(s, now).mustRefuse(t, fmt.Sprint("at ", now), expire, to(3, 0, 0), api.ErrState)
	}
	for _, now := range []int64{200, 201, 1 << 40, math.MaxInt64} {
		w := beginAt(s, now)
		w.mustDo(t, fmt.Sprint("at ", now), expire, to(3, 0, 0), expired(3))
		w.mustHold(t, fmt.Sprint("at ", now), s.Listed, of(2), of(5))
		w.mustRefuse(t, fmt.Sprint("at ", now, " again"), expire, to(3, 0, 0), api.ErrNone)
	}
	for _, now := range []int64{0, 200, math.MaxInt64} {
		for _, key := range []uint64{0, 1, 4, 7, 6, 3 + 1<<32, math.MaxUint64} {
			beginAt(s, now).mustRefuse(t, fmt.Sprint("none ", key), expire, to(key, 0, 0), api.ErrNone)
		}
		beginAt(api.State{}, now).mustRefuse(t, "of no messages", expire, to(0, 0, 0), api.ErrNone)
	}
	w := beginAt(api.State{Messages: []api.Message{{Until: -5}, {Key: math.MaxUint64, Until: math.MaxInt64}}}, -5)
	w.mustDo(t, "the key 0", expire, to(0, 0, 0), expired(0))
	w.mustRefuse(t, "the greatest", expire, to(math.MaxUint64, 0, 0), api.ErrState)
}

// P17.6: of several messages of one key the first one is asked, and all are taken away.
func TestExpireOfOneKey(t *testing.T) {
	dead := with(of(3), func(m *api.Message) { m.Until = 100 })
	w := begin(state(nil, of(2), of(3), dead))
	w.mustRefuse(t, "the first lives", expire, to(3, 0, 0), api.ErrState)
	w = begin(state(nil, of(2), dead, of(3)))
	w.mustDo(t, "the second lives", expire, to(3, 0, 0), expired(3))
	w.mustHold(t, "the second lives", nil, of(2))
}
