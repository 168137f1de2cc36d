package match_test

import (
	"fmt"
	"math"
	"slices"
	"strings"
	"testing"

	"wherry/api"
	"wherry/flow"
	"wherry/fold"
	"wherry/match"
	"wherry/rec"
	"wherry/value"
)

// P17.2: what is published, without places and with some.
func TestPublish(t *testing.T) {
	vars := []api.Var{num("a", 1), text("b", "x")}
	w := begin(state(nil))
	w.mustDo(t, "without places", match.Publish, pub("paid", "k", "x", 50, vars...), published(first, "paid", "k", "x", 150, vars...))
	w.mustHold(t, "without places", nil, api.Message{Key: first, Name: "paid", For: "k", Id: "x", Until: 150, Vars: vars})
	w.mustDo(t, "a second one", match.Publish, pub("paid", "k", "y", 1<<20), published(first+1, "paid", "k", "y", 100+1<<20))

	other := with(at(8), func(l *api.Listed) { l.Key = "other" })
	w = begin(state([]api.Listed{at(7), other, at(9)}, of(3)))
	w.mustDo(t, "with places", match.Publish, pub("paid", "k", "x", 50, vars...),
		published(first, "paid", "k", "x", 150, vars...), sending(7, 4, first), sending(9, 4, first))
	w.mustHold(t, "with places", []api.Listed{underway(at(7), first, vars...), other, underway(at(9), first, vars...)},
		of(3), api.Message{Key: first, Name: "paid", For: "k", Id: "x", Until: 150, Vars: vars, Insts: []uint64{1007, 1009}})
	w.mustDo(t, "when none is free", match.Publish, pub("paid", "k", "y", 50), published(first+1, "paid", "k", "y", 150))
}

// P17.2: names, keys, ids, times and variables that may not be; and those that may, at
// their bounds.
func TestPublishBounds(t *testing.T) {
	w := begin(state([]api.Listed{at(7)}))
	good := pub("paid", "k", "x", 50)
	refuse := func(what string, change func(r *api.Record)) {
		t.Helper()
		w.mustRefuse(t, what, match.Publish, with(good, change), api.ErrArg)
	}
	for _, name := range []string{"", " ", "Paid", "1", "_a", "a-b", "paid ", "and", "or", "not", "true", "false", "len", "é", "a\x00", long(33), long(5000)} {
		refuse(fmt.Sprintf("A %.40q", name), func(r *api.Record) { r.A = name })
	}
	for _, n := range []int{1025, 1026, 9000} {
		refuse(fmt.Sprint("B of ", n), func(r *api.Record) { r.B = long(n) })
	}
	for _, n := range []int{33, 34, 1024, 9000} {
		refuse(fmt.Sprint("C of ", n), func(r *api.Record) { r.C = long(n) })
	}
	for _, n := range []int64{-1, 1<<20 + 1, 1 << 21, 1 << 32, 1<<32 + 1, math.MinInt64, math.MaxInt64} {
		refuse(fmt.Sprint("N ", n), func(r *api.Record) { r.N = n })
	}
	for what, vars := range map[string][]api.Var{
		"no name":     {num("A", 1)},
		"no kind":     {{Name: "a"}},
		"not rising":  {num("b", 1), num("a", 1)},
		"twice":       {num("a", 1), num("a", 1)},
		"a long text": {text("a", long(1025))},
		"17":          many(17),
	} {
		refuse("Vars: "+what, func(r *api.Record) { r.Vars = vars })
	}
	for what, r := range map[string]api.Record{
		"a name of 32":    pub(long(32), "k", "x", 50),
		"a name of 1":     pub("p", "k", "x", 50),
		"no key":          pub("paid", "", "x", 50),
		"a key of 1024":   pub("paid", long(1024), "x", 50),
		"a key of bytes":  pub("paid", "\x00\xff\"", "x", 50),
		"no id":           pub("paid", "k", "", 50),
		"an id of 32":     pub("paid", "k", long(32), 50),
		"an id of bytes":  pub("paid", "k", "\x00 \xff", 50),
		"for 1":           pub("paid", "k", "x", 1),
		"for 2^20":        pub("paid", "k", "x", 1<<20),
		"16 variables":    pub("paid", "k", "x", 50, many(16)...),
		"all kinds":       pub("paid", "k", "x", 50, num("a", math.MinInt64), api.Var{Name: "b", V: api.Value{Kind: api.Bool, N: 1}}, text("c", "")),
		"a text of 1024":  pub("paid", "k", "x", 50, text("c", long(1024))),
		"an empty list":   pub("paid", "k", "x", 50, []api.Var{}...),
		"as long as most": pub(long(32), "k", long(32), 1<<20, many(16)...),
	} {
		w := begin(state(nil))
		w.mustDo(t, what, match.Publish, r, published(first, r.A, r.B, r.C, 100+r.N, r.Vars...))
	}
}

// many are variables.
func many(n int) []api.Var {
	var l []api.Var
	for i := range n {
		l = append(l, num(fmt.Sprintf("v%02d", i), int64(i)))
	}
	return l
}

// bytesOf are variables whose bytes (chapter 9's) are just so many.
func bytesOf(t *testing.T, n int) []api.Var {
	t.Helper()
	l := []api.Var{text("a", long(1000)), text("b", long(990)), text("c", "")}
	l[2].V.S = long(n - len(value.VarsBytes(l)) - 1)
	if got := len(value.VarsBytes(l)); got != n {
		t.Fatal(got, n)
	}
	return l
}

// P17.2: variables of MaxTold bytes are told, of more ErrLong, and no event.
func TestPublishMaxTold(t *testing.T) {
	w := begin(state([]api.Listed{at(7)}))
	for _, n := range []int{3001, 3002, 3008} {
		w.mustRefuse(t, fmt.Sprint(n), match.Publish, pub("paid", "k", "x", 50, bytesOf(t, n)...), api.ErrLong)
		w.mustRefuse(t, fmt.Sprint(n), match.Publish, pub("paid", "k", "", 0, bytesOf(t, n)...), api.ErrLong)
	}
	for _, n := range []int{2999, 3000} {
		w := begin(state([]api.Listed{at(7)}))
		vars := bytesOf(t, n)
		w.mustDo(t, fmt.Sprint(n), match.Publish, pub("paid", "k", "x", 50, vars...), published(first, "paid", "k", "x", 150, vars...), sending(7, 4, first))
	}
}

// P17.2: where EPublished is no record that may be: too many bytes, a position of 0, a
// time that is none: ErrLong, and no event.
func TestPublishNoRecord(t *testing.T) {
	// Only of great numbers a record has too many bytes, as variables have 3000 at most.
	s := api.State{Made: math.MaxUint64 - 9, Listed: []api.Listed{with(at(7), func(l *api.Listed) { l.Name, l.Key = "ship", "" })}}
	great := func() work { return work{flow.Begin(s, 0, math.MaxUint64, 1<<40), s} }
	vars := bytesOf(t, 3000)
	told := published(math.MaxUint64-8, long(32), "", long(32), 1<<40+1<<20, vars...)
	told.Class, told.From, told.Time = api.Event, math.MaxUint64, 1<<40
	b, err := rec.Bytes(told)
	if err != api.OK {
		t.Fatal(err)
	}
	room := 4096 - len(b) - 1 // a longer B's length has two bytes
	if room < 900 || room > 1020 {
		t.Fatal(room)
	}
	for n := room - 3; n <= room+3; n++ {
		r, what := pub(told.A, long(n), told.C, 1<<20, vars...), fmt.Sprint("a key of ", n, " where there is room for ", room)
		if n > room {
			great().mustRefuse(t, what, match.Publish, r, api.ErrLong)
		} else {
			great().mustDo(t, what, match.Publish, r, published(told.Key, r.A, r.B, r.C, told.N, vars...))
		}
	}
	for _, now := range []int64{-1, -100, math.MinInt64, 1<<40 + 1, math.MaxInt64} {
		w := beginAt(state([]api.Listed{at(7)}), now)
		w.mustRefuse(t, fmt.Sprint("at ", now), match.Publish, pub("paid", "k", "x", 50), api.ErrLong)
		w.mustRefuse(t, fmt.Sprint("at ", now), match.Publish, pub("paid", "k", "", 0), api.ErrLong)
	}
	for _, now := range []int64{0, 1, 1<<40 - 1, 1 << 40} {
		w := beginAt(state(nil), now)
		w.mustDo(t, fmt.Sprint("at ", now), match.Publish, pub("paid", "k", "x", 1<<20), published(first, "paid", "k", "x", now+1<<20))
	}
	w := work{flow.Begin(state([]api.Listed{at(7)}), 1, 0, 100), state([]api.Listed{at(7)})}
	w.mustRefuse(t, "the position 0", match.Publish, pub("paid", "k", "x", 50), api.ErrLong)
}

// P17.2: of several errors the first one that is told.
func TestPublishErrorsInOrder(t *testing.T) {
	w := beginAt(state(nil, with(of(3), func(m *api.Message) { m.Until = math.MaxInt64 })), 1<<41)
	w.mustRefuse(t, "all", match.Publish, pub("paid", "k", "id3", -1, bytesOf(t, 3001)...), api.ErrArg)
	w.mustRefuse(t, "there, and long", match.Publish, pub("paid", "k", "id3", 5, bytesOf(t, 3001)...), api.ErrThere)
	w.mustRefuse(t, "long", match.Publish, pub("paid", "k", "id4", 5, bytesOf(t, 3001)...), api.ErrLong)
}

// P17.2: ErrThere of an Id that a message has that lives; not of one that another name
// or key has, of one that lives no more, of an empty one.
func TestPublishAgain(t *testing.T) {
	s := state([]api.Listed{at(7)},
		with(of(1), func(m *api.Message) { m.Until = 100 }),
		with(of(2), func(m *api.Message) { m.Until = 101 }),
		with(of(3), func(m *api.Message) { m.Name = "ship" }),
		with(of(4), func(m *api.Message) { m.For = "other" }),
		with(of(5), func(m *api.Message) { m.Id = "" }),
		with(of(6), func(m *api.Message) { m.Until = math.MinInt64 }),
		with(of(7), func(m *api.Message) { m.Name, m.For, m.Id = "pai", "dk", "id7" }),
		with(of(8), func(m *api.Message) { m.Until = math.MaxInt64 }),
	)
	for id, is := range map[string]bool{"id1": false, "id2": true, "id3": false, "id4": false, "": false, "id6": false, "id7": false, "id8": true, "id": false, "ID2": false} {
		for _, wait := range []int64{0, 50} {
			r := pub("paid", "k", id, wait)
			w := begin(s)
			if is {
				w.mustRefuse(t, id, match.Publish, r, api.ErrThere)
				continue
			}
			want := []api.Record{published(first, "paid", "k", id, 100+wait), sending(7, 4, first)}
			if wait == 0 {
				want = append(want, expired(first))
			}
			w.mustDo(t, id, match.Publish, r, want...)
		}
	}
	w := begin(s)
	w.mustDo(t, "without an id", match.Publish, pub("paid", "k", "", 50), published(first, "paid", "k", "", 150), sending(7, 4, first))
	w.mustDo(t, "without an id, again", match.Publish, pub("paid", "k", "", 50), published(first+1, "paid", "k", "", 150))
	w.mustDo(t, "an id", match.Publish, pub("paid", "k", "z", 1), published(first+2, "paid", "k", "z", 101))
	w.mustRefuse(t, "an id again", match.Publish, pub("paid", "k", "z", 1), api.ErrThere)
	w = beginAt(w.State(), 101)
	w.mustDo(t, "when it lives no more", match.Publish, pub("paid", "k", "z", 1), published(first+3, "paid", "k", "z", 102))
	w = begin(state(nil))
	w.mustDo(t, "for no time", match.Publish, pub("paid", "k", "z", 0), published(first, "paid", "k", "z", 100), expired(first))
	w.mustDo(t, "for no time, again", match.Publish, pub("paid", "k", "z", 0), published(first+1, "paid", "k", "z", 100), expired(first+1))
}

// P17.2: for no time: it is sent all the same, and expires.
func TestPublishForNoTime(t *testing.T) {
	w := begin(state([]api.Listed{at(7), at(8)}))
	w.mustDo(t, "N 0", match.Publish, pub("paid", "k", "x", 0, num("a", 1)),
		published(first, "paid", "k", "x", 100, num("a", 1)), sending(7, 4, first), sending(8, 4, first), expired(first))
	w.mustHold(t, "N 0", []api.Listed{underway(at(7), first, num("a", 1)), underway(at(8), first, num("a", 1))})
	w = beginAt(state(nil), 0)
	w.mustDo(t, "at 0", match.Publish, pub("paid", "k", "x", 0), published(first, "paid", "k", "x", 0), expired(first))
}

// P17.2: places that the message doesn't suit: of another name, of another key, with a
// message on its way.
func TestPublishSuits(t *testing.T) {
	l := []api.Listed{
		with(at(1), func(l *api.Listed) { l.Name = "ship" }),
		with(at(2), func(l *api.Listed) { l.Name = "" }),
		with(at(3), func(l *api.Listed) { l.Key = "" }),
		with(at(4), func(l *api.Listed) { l.Key = "K" }),
		with(at(5), func(l *api.Listed) { l.Key = "kk" }),
		underway(at(6), 9),
		underway(at(7), math.MaxUint64),
		with(at(8), func(l *api.Listed) { l.Vars = []api.Var{num("z", 1)} }),
		with(at(9), func(l *api.Listed) { l.Node = 0 }),
		with(at(10), func(l *api.Listed) { l.Node = 30000 }),
		with(at(11), func(l *api.Listed) { l.Inst = 0 }),
		with(at(math.MaxUint64), func(l *api.Listed) { l.Inst = math.MaxUint64 }),
	}
	w := begin(state(l))
	w.mustDo(t, "of all", match.Publish, pub("paid", "k", "", 5), published(first, "paid", "k", "", 105),
		sending(8, 4, first), sending(9, 0, first), sending(10, 30000, first), sending(11, 4, first), sending(math.MaxUint64, 4, first))
	if m := w.State().Messages; !slices.Equal(m[0].Insts, []uint64{1008, 1009, 1010, 0, math.MaxUint64}) {
		t.Errorf("%+v", m)
	}
	w = begin(state(l))
	w.mustDo(t, "of the empty key", match.Publish, pub("paid", "", "", 5), published(first, "paid", "", "", 105), sending(3, 4, first))
}

// P17.2: of the places of one instance the first that is free, as each is then.
func TestPublishOnceAnInstance(t *testing.T) {
	inst := func(inst uint64, l api.Listed) api.Listed {
		l.Inst = inst
		return l
	}
	other := func(l api.Listed) api.Listed {
		l.Key = "other"
		return l
	}
	w := begin(state([]api.Listed{
		inst(5, underway(at(1), 3)), inst(5, other(at(2))), inst(5, at(3)), inst(6, at(4)), inst(5, at(5)),
		inst(5, with(at(5), func(l *api.Listed) { l.Node = 6 })), inst(7, at(6)), inst(6, at(7)),
	}))
	w.mustDo(t, "three instances", match.Publish, pub("paid", "k", "x", 5),
		published(first, "paid", "k", "x", 105), sending(3, 4, first), sending(4, 4, first), sending(6, 4, first))
	w.mustDo(t, "a second message", match.Publish, pub("paid", "k", "y", 5),
		published(first+1, "paid", "k", "y", 105), sending(5, 4, first+1), sending(7, 4, first+1))
	w.mustDo(t, "a third one", match.Publish, pub("paid", "k", "z", 0),
		published(first+2, "paid", "k", "z", 100), sending(5, 6, first+2), expired(first+2))
	w.mustDo(t, "a fourth one", match.Publish, pub("paid", "k", "", 0), published(first+3, "paid", "k", "", 100), expired(first+3))
}

// P17.2: to the first MaxSends places that it suits, be there others between.
func TestPublishMaxSends(t *testing.T) {
	for _, n := range []int{99, 100, 101, 250} {
		for _, wait := range []int64{0, 9} {
			var l []api.Listed
			want := []api.Record{published(first, "paid", "k", "x", 100+wait)}
			for i := range uint64(n) {
				l = append(l, underway(at(10*i+1), 5), at(10*i+2), with(at(10*i+3), func(l *api.Listed) { l.Name = "ship" }))
				if i < 100 {
					want = append(want, sending(10*i+2, 4, first))
				}
			}
			if wait == 0 {
				want = append(want, expired(first))
			}
			w := begin(state(l))
			w.mustDo(t, fmt.Sprint(n, " for ", wait), match.Publish, pub("paid", "k", "x", wait), want...)
		}
	}
}

// P17.2: the new key, on each partition and however many there were.
func TestPublishKey(t *testing.T) {
	for _, part := range []int{0, 1, 3, 200} {
		for _, made := range []uint64{0, 1, 1<<40 - 1, 1 << 40, math.MaxUint64 - 1} {
			s := api.State{Made: made, Listed: []api.Listed{at(7)}}
			w := work{flow.Begin(s, part, 21, 100), s}
			key := uint64(part)<<40 + made + 1
			w.mustDo(t, fmt.Sprint(part, " ", made), match.Publish, pub("paid", "k", "x", 50), published(key, "paid", "k", "x", 150), sending(7, 4, key))
			if got := w.State().Made; got != made+1 {
				t.Errorf("%d, want %d", got, made+1)
			}
		}
	}
}

// P17.2: states that no command made. Several elements of one place are each a listed
// place; what is sent there changes the first one alone.
func TestPublishOfOddPlaces(t *testing.T) {
	twin := func(inst uint64) api.Listed { return with(at(7), func(l *api.Listed) { l.Inst = inst }) }
	w := begin(state([]api.Listed{at(9), twin(1), twin(2), twin(1), twin(3), at(8)}))
	w.mustDo(t, "each suits", match.Publish, pub("paid", "k", "x", 50), published(first, "paid", "k", "x", 150),
		sending(9, 4, first), sending(7, 4, first), sending(7, 4, first), sending(7, 4, first), sending(8, 4, first))
	if got := w.State().Messages[0].Insts; !slices.Equal(got, []uint64{1009, 1, 1, 1, 1008}) {
		t.Error(got)
	}
	w = begin(state([]api.Listed{underway(twin(1), 3), twin(2), twin(1)}))
	w.mustDo(t, "the first has a message", match.Publish, pub("paid", "k", "x", 50), published(first, "paid", "k", "x", 150), sending(7, 4, first))
	w.mustHold(t, "the first has a message", []api.Listed{underway(twin(1), first), twin(2), twin(1)},
		with(of(first), func(m *api.Message) { m.Id, m.Until, m.Vars, m.Insts = "x", 150, nil, []uint64{1} }))
}

// P17.2: states that no command made. A message of the new key is put into the place of
// the first one that has it; a key of 0 leaves places free.
func TestPublishOfOddKeys(t *testing.T) {
	full := make([]uint64, 500)
	old := with(of(first), func(m *api.Message) { m.Insts = full })
	w := begin(state([]api.Listed{at(7), with(at(8), func(l *api.Listed) { l.Inst = 0 })}, of(2), old, old))
	w.mustDo(t, "the key is there", match.Publish, pub("paid", "k", "x", 50), published(first, "paid", "k", "x", 150), sending(7, 4, first), sending(8, 4, first))
	w = begin(state([]api.Listed{at(7)}, of(2), old, old))
	w.mustDo(t, "the key is there, for no time", match.Publish, pub("paid", "k", "x", 0), published(first, "paid", "k", "x", 100), sending(7, 4, first), expired(first))
	w.mustHold(t, "all of the key are gone", []api.Listed{underway(at(7), first)}, of(2))

	s := api.State{Made: math.MaxUint64, Listed: []api.Listed{at(7), at(8), at(7)}}
	w = work{flow.Begin(s, 0, 21, 100), s}
	w.mustDo(t, "the key 0", match.Publish, pub("paid", "k", "x", 50), published(0, "paid", "k", "x", 150), sending(7, 4, 0), sending(8, 4, 0))
}

// R3: neither the record's variables nor the work's are shared with what was handed in.
func TestPublishKeepsNothing(t *testing.T) {
	vars := append(make([]api.Var, 0, 5), num("a", 1))
	before := slices.Clone(vars[:5])
	s := state([]api.Listed{at(7)})
	w := begin(s)
	w.mustDo(t, "published", match.Publish, pub("paid", "k", "x", 50, vars...), published(first, "paid", "k", "x", 150, num("a", 1)), sending(7, 4, first))
	if !slices.Equal(vars[:5], before) || !fold.Same(s, state([]api.Listed{at(7)})) {
		t.Error("what was handed in is changed")
	}
	clear(vars[:5])
	w.mustHold(t, "later", []api.Listed{underway(at(7), first, num("a", 1))},
		api.Message{Key: first, Name: "paid", For: "k", Id: "x", Until: 150, Vars: []api.Var{num("a", 1)}, Insts: []uint64{1007}})
}

// P17.2: events ahead, be they many or none that may be, refuse nothing here.
func TestPublishBehindEvents(t *testing.T) {
	w := begin(state([]api.Listed{at(7)}))
	for range 300 {
		w.Emit(api.Record{Kind: 99, A: strings.Repeat("x", 5000)})
	}
	w.mustDo(t, "behind 300", match.Publish, pub("paid", "k", "x", 50), published(first, "paid", "k", "x", 150), sending(7, 4, first))
}
