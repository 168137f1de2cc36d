package match_test

import (
	"fmt"
	"math"
	"slices"
	"testing"

	"wherry/api"
	"wherry/match"
)

// P17.3: a place is listed, once.
func TestOpen(t *testing.T) {
	w := begin(state(nil))
	w.mustDo(t, "the first", match.Open, open(7, 1007, 4, "paid", "k"), listed(7, 1007, 4, "paid", "k"))
	w.mustDo(t, "again", match.Open, open(7, 1007, 4, "paid", "k"), done())
	w.mustDo(t, "another node", match.Open, open(7, 1007, 3, "paid", "k"), listed(7, 1007, 3, "paid", "k"))
	w.mustDo(t, "another token", match.Open, open(6, 1007, 4, "ship", ""), listed(6, 1007, 4, "ship", ""))
	w.mustHold(t, "all", []api.Listed{
		{Token: 6, Inst: 1007, Node: 4, Name: "ship"},
		{Token: 7, Inst: 1007, Node: 3, Name: "paid", Key: "k"},
		{Token: 7, Inst: 1007, Node: 4, Name: "paid", Key: "k"},
	})
}

// P17.3: a place that is listed is so whatever else is told of it, and whatever is on
// its way there; no message is sent then.
func TestOpenOfListed(t *testing.T) {
	for what, l := range map[string][]api.Listed{
		"free":           {at(6), at(7)},
		"with a message": {underway(at(7), 3), at(8)},
		"twice":          {underway(at(7), 3), at(7)},
	} {
		w := begin(state(l, of(5)))
		w.mustDo(t, what, match.Open, open(7, 1007, 4, "paid", "k"), done())
		w.mustDo(t, what+", of another instance", match.Open, open(7, 5, 4, "paid", "k"), done())
		w.mustDo(t, what+", for another message", match.Open, open(7, 1007, 4, "ship", "z"), done())
	}
}

// P17.3: names, keys and nodes that may not be, of listed places too; and those that
// may, at their bounds.
func TestOpenBounds(t *testing.T) {
	w := begin(state([]api.Listed{at(7)}, of(5)))
	for _, token := range []uint64{7, 8} {
		good := open(token, 1, 4, "paid", "k")
		refuse := func(what string, change func(r *api.Record)) {
			t.Helper()
			w.mustRefuse(t, what, match.Open, with(good, change), api.ErrArg)
		}
		for _, name := range []string{"", "Paid", "1", "_a", "a-b", "paid ", "and", "len", "é", long(33), long(5000)} {
			refuse(fmt.Sprintf("A %.40q", name), func(r *api.Record) { r.A = name })
		}
		for _, n := range []int{1025, 9000} {
			refuse(fmt.Sprint("B of ", n), func(r *api.Record) { r.B = long(n) })
		}
		for _, n := range []int64{-1, 30001, 1 << 32, 1<<32 + 4, math.MinInt64, math.MaxInt64} {
			refuse(fmt.Sprint("N ", n), func(r *api.Record) { r.N = n })
		}
	}
	for _, n := range []int64{0, 1, 29999, 30000} {
		for _, key := range []uint64{0, 1, 1<<40 + 3, math.MaxUint64} {
			w := begin(state(nil))
			w.mustDo(t, fmt.Sprint(n, " of ", key), match.Open, open(key, key, n, "paid", "k"), listed(key, key, n, "paid", "k"))
			w.mustDo(t, fmt.Sprint(n, " of ", key, " again"), match.Open, open(key, 5, n, "paid", "k"), done())
		}
	}
	for _, r := range []api.Record{open(1, 2, 3, long(32), "k"), open(1, 2, 3, "a", ""), open(1, 2, 3, "a", long(1024)), open(1, 2, 3, "a", "\x00\xff")} {
		w := begin(state(nil))
		w.mustDo(t, fmt.Sprintf("%.40q %.40q", r.A, r.B), match.Open, r, listed(1, 2, 3, r.A, r.B))
	}
}

// P17.3: of the messages that live and suit it the first one is sent.
func TestOpenSends(t *testing.T) {
	until := func(n int64, m api.Message) api.Message {
		m.Until = n
		return m
	}
	came := func(m api.Message, insts ...uint64) api.Message {
		m.Insts = insts
		return m
	}
	insts := make([]uint64, 501)
	other := with(of(9), func(m *api.Message) { m.For = "other" })
	ship := with(of(9), func(m *api.Message) { m.Name = "ship" })
	for what, x := range map[string]struct {
		messages []api.Message
		want     uint64 // the message that is sent; 0: none
	}{
		"none":                          {nil, 0},
		"one":                           {[]api.Message{of(3)}, 3},
		"two":                           {[]api.Message{of(3), of(4)}, 3},
		"not in order":                  {[]api.Message{of(8), of(4)}, 8},
		"the first lives no more":       {[]api.Message{until(100, of(3)), of(4)}, 4},
		"the first lives no more, long": {[]api.Message{until(-5, of(3)), of(4)}, 4},
		"the first just lives":          {[]api.Message{until(101, of(3)), of(4)}, 3},
		"none lives":                    {[]api.Message{until(0, of(3)), until(100, of(4)), until(math.MinInt64, of(5))}, 0},
		"another key, another name":     {[]api.Message{other, ship, of(4)}, 4},
		"of another key":                {[]api.Message{other}, 0},
		"of another name":               {[]api.Message{ship}, 0},
		"it came to the instance":       {[]api.Message{came(of(3), 5, 1007, 6), of(4)}, 4},
		"all came to the instance":      {[]api.Message{came(of(3), 1007), came(of(4), 1, 1007)}, 0},
		"it came to others":             {[]api.Message{came(of(3), 7, 1006, 1008)}, 3},
		"it came to 499":                {[]api.Message{came(of(3), insts[:499]...), of(4)}, 3},
		"it came to 500":                {[]api.Message{came(of(3), insts[:500]...), of(4)}, 4},
		"it came to 501":                {[]api.Message{came(of(3), insts...), of(4)}, 4},
		"one key: the second lives":     {[]api.Message{until(100, of(3)), of(3)}, 3},
		"one key: the second suits":     {[]api.Message{came(of(3), 1007), of(3)}, 3},
	} {
		w := begin(state([]api.Listed{at(1), at(9)}, x.messages...))
		want := []api.Record{listed(7, 1007, 4, "paid", "k")}
		if x.want != 0 {
			want = append(want, sending(7, 4, x.want))
		}
		w.mustDo(t, what, match.Open, open(7, 1007, 4, "paid", "k"), want...)
		w.mustDo(t, what+", again", match.Open, open(7, 1007, 4, "paid", "k"), done())
	}
	w := begin(state(nil, with(of(0), func(m *api.Message) { m.Id = "" })))
	w.mustDo(t, "the key 0", match.Open, open(7, 1007, 4, "paid", "k"), listed(7, 1007, 4, "paid", "k"), sending(7, 4, 0))
	w.mustDo(t, "the key 0, again", match.Open, open(7, 1007, 4, "paid", "k"), done())
}

// P17.3: to a place that is opened goes a message with its variables, and its instances
// are one more.
func TestOpenTakesVars(t *testing.T) {
	w := begin(state([]api.Listed{at(9)}, with(of(3), func(m *api.Message) { m.Insts = []uint64{5} })))
	w.mustDo(t, "opened", match.Open, open(7, 1007, 4, "paid", "k"), listed(7, 1007, 4, "paid", "k"), sending(7, 4, 3))
	w.mustHold(t, "opened", []api.Listed{underway(at(7), 3, num("m", 3)), at(9)},
		with(of(3), func(m *api.Message) { m.Insts = []uint64{5, 1007} }))
}

// sub is a subscription to paid, k at the node 4 that isn't open.
func sub(token uint64) api.Sub {
	return api.Sub{Token: token, Inst: token + 1000, Node: 4, Name: "paid", Key: "k"}
}

// isOpen is a subscription that is.
func isOpen(x api.Sub) api.Sub {
	x.Open = true
	return x
}

// P17.3: a subscription is opened, once; of others it is EDone.
func TestOpened(t *testing.T) {
	node := func(n int, x api.Sub) api.Sub {
		x.Node = n
		return x
	}
	s := api.State{Subs: []api.Sub{sub(6), node(3, sub(7)), sub(7), node(5, sub(7)), isOpen(sub(8)), sub(0)}}
	w := begin(s)
	w.mustDo(t, "one that waits", match.Opened, to(7, 4, 0), opened(7, 4))
	s.Subs[2].Open = true
	if !slices.Equal(w.State().Subs, s.Subs) {
		t.Errorf("%+v", w.State().Subs)
	}
	w.mustDo(t, "again", match.Opened, to(7, 4, 0), done())
	w.mustDo(t, "one that is open", match.Opened, to(8, 4, 0), done())
	for _, r := range []api.Record{to(7, 6, 0), to(9, 4, 0), to(6, 3, 0), to(7, -1, 0), to(7, 1<<32+3, 0), to(7, math.MaxInt64, 0), to(math.MaxUint64, 4, 0), to(1007, 4, 0)} {
		w.mustDo(t, fmt.Sprintf("none %d %d", r.Key, r.N), match.Opened, r, done())
	}
	w.mustDo(t, "another node of it", match.Opened, to(7, 3, 99), opened(7, 3))
	w.mustDo(t, "of the token 0", match.Opened, to(0, 4, 0), opened(0, 4))
	begin(api.State{}).mustDo(t, "of no subscriptions", match.Opened, to(0, 0, 0), done())

	w = begin(api.State{Subs: []api.Sub{node(-1, sub(1)), node(math.MaxInt, sub(1)), node(math.MinInt, sub(1))}})
	for _, n := range []int64{-1, math.MaxInt64, math.MinInt64} {
		w.mustDo(t, fmt.Sprint("the node ", n), match.Opened, to(1, n, 0), opened(1, n))
	}
}

// P17.3: of several of one place one that isn't open is enough, though the event opens
// the first one alone.
func TestOpenedOfOnePlace(t *testing.T) {
	w := begin(api.State{Subs: []api.Sub{sub(7), sub(7)}})
	w.mustDo(t, "two", match.Opened, to(7, 4, 0), opened(7, 4))
	w.mustDo(t, "the second isn't open", match.Opened, to(7, 4, 0), opened(7, 4))
	w = begin(api.State{Subs: []api.Sub{isOpen(sub(7)), isOpen(sub(7))}})
	w.mustDo(t, "both are open", match.Opened, to(7, 4, 0), done())
}
