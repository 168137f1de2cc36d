package keep_test

import (
	"fmt"
	"math/rand"
	"slices"
	"strings"
	"testing"

	"wherry/api"
	"wherry/disk"
	"wherry/fold"
	"wherry/keep"
	"wherry/store"
)

// pick is one of these.
func pick[T any](g *rand.Rand, l ...T) T { return l[g.Intn(len(l))] }

func anyKey(g *rand.Rand) uint64 {
	return pick(g, 0, 1, 2, 255, 256, 1<<40+1, top-1, top, g.Uint64()>>g.Intn(64))
}

func anyNumber(g *rand.Rand) int {
	return pick(g, -1, 0, 1, 63, 64, 255, 256, 29999, 30000, g.Intn(30001))
}

func anyTime(g *rand.Rand) int64 {
	return pick(g, 0, 1, 63, 64, 1<<40, latest-1, latest, g.Int63()>>(1+g.Intn(60)))
}

func anyText(g *rand.Rand, most int) string {
	return strings.Repeat(pick(g, "a", "b", "\x00", "\xff", "\x80"), pick(g, 0, 1, 2, 5, min(127, most), most))
}

func anyVars(g *rand.Rand) []api.Var {
	var l []api.Var
	for i := range pick(g, 0, 0, 1, 2, 3, 16) {
		name := fmt.Sprintf("%c%s", 'a'+i, strings.Repeat("n", g.Intn(32)))
		l = append(l, pick(g, num(name, int64(anyKey(g))), truth(name, int64(g.Intn(2))), text(name, anyText(g, pick(g, 50, 1024)))))
	}
	return l
}

// anyList has some elements, by rising keys as long as these are few.
func anyList[T any](g *rand.Rand, make func() T, below func(a, b T) bool) []T {
	var l []T
	for range pick(g, 0, 1, 2, 3, 5) {
		x := make()
		if !slices.ContainsFunc(l, func(y T) bool { return !below(x, y) && !below(y, x) }) {
			l = append(l, x)
		}
	}
	slices.SortFunc(l, func(a, b T) int {
		if below(a, b) {
			return -1
		}
		return 1
	})
	return l
}

// random is a state that may be, but for values that are too long.
func random(g *rand.Rand) api.State {
	node := func() int { return max(0, anyNumber(g)) }
	name := func() string { return anyText(g, 32) }
	return api.State{
		Pos: anyKey(g), Done: anyKey(g), Made: anyKey(g),
		Procs: anyList(g, func() api.Deployed { return api.Deployed{Id: name(), Bytes: anyText(g, pick(g, 200, 16382))} },
			func(a, b api.Deployed) bool { return a.Id < b.Id }),
		Insts: anyList(g, func() api.Instance { return api.Instance{Key: anyKey(g), Id: name(), Vars: anyVars(g)} },
			func(a, b api.Instance) bool { return a.Key < b.Key }),
		Tokens: anyList(g, func() api.Token {
			return api.Token{Key: anyKey(g), Inst: anyKey(g), Scope: anyKey(g), Node: anyNumber(g), By: anyNumber(g), Stuck: name()}
		}, func(a, b api.Token) bool { return a.Key < b.Key }),
		Jobs: anyList(g, func() api.Job {
			return api.Job{Key: anyKey(g), Token: anyKey(g), Type: name(), Retries: anyNumber(g), Worker: name(), Until: anyTime(g)}
		}, func(a, b api.Job) bool { return a.Key < b.Key }),
		Timers: anyList(g, func() api.Timer { return api.Timer{Token: anyKey(g), Node: node(), When: anyTime(g)} },
			func(a, b api.Timer) bool { return placeBelow(a.Token, b.Token, a.Node, b.Node) }),
		Subs: anyList(g, func() api.Sub {
			return api.Sub{Token: anyKey(g), Inst: anyKey(g), Node: node(), Name: name(), Key: anyText(g, 1024), Open: g.Intn(2) == 0}
		}, func(a, b api.Sub) bool { return placeBelow(a.Token, b.Token, a.Node, b.Node) }),
		Kept: anyList(g, func() api.Kept { return api.Kept{Token: anyKey(g), Message: anyKey(g), Node: node()} },
			func(a, b api.Kept) bool { return placeBelow(a.Token, b.Token, a.Node, b.Node) }),
		Listed: anyList(g, func() api.Listed {
			return api.Listed{Token: anyKey(g), Inst: anyKey(g), Node: node(), Name: name(), Key: anyText(g, 1024), Message: anyKey(g), Vars: anyVars(g)}
		}, func(a, b api.Listed) bool { return placeBelow(a.Token, b.Token, a.Node, b.Node) }),
		Messages: anyList(g, func() api.Message {
			x := api.Message{Key: anyKey(g), Name: name(), For: anyText(g, 1024), Id: name(), Until: anyTime(g), Vars: anyVars(g)}
			for range g.Intn(5) {
				x.Insts = append(x.Insts, anyKey(g))
			}
			return x
		}, func(a, b api.Message) bool { return a.Key < b.Key }),
	}
}

// disturb changes one thing of a state, most often to what may not be.
func disturb(g *rand.Rand, s *api.State) {
	number := pick(g, -2, -1, 0, 30000, 30001, 1<<16, 1<<32)
	time := pick(g, -1, 0, latest, latest+1)
	short, longer := long(pick(g, 32, 33, 1024)), long(pick(g, 1024, 1025))
	bad := pick(g, []api.Var{{}}, []api.Var{num("b", 1), num("a", 1)}, []api.Var{num("a", 1)})
	l := []func(){}
	add := func(n int, change func(i int)) {
		if n > 0 {
			l = append(l, func() { change(g.Intn(n)) })
		}
	}
	add(len(s.Procs), func(i int) { s.Procs[i].Id = short })
	add(len(s.Insts), func(i int) { s.Insts[i].Id = short })
	add(len(s.Insts), func(i int) { s.Insts[i].Key = anyKey(g) })
	add(len(s.Insts), func(i int) { s.Insts[i].Vars = bad })
	add(len(s.Tokens), func(i int) { s.Tokens[i].Node = number })
	add(len(s.Tokens), func(i int) { s.Tokens[i].By = number })
	add(len(s.Tokens), func(i int) { s.Tokens = append(s.Tokens, s.Tokens[i]) })
	add(len(s.Jobs), func(i int) { s.Jobs[i].Retries = number })
	add(len(s.Jobs), func(i int) { s.Jobs[i].Until = time })
	add(len(s.Jobs), func(i int) { slices.Reverse(s.Jobs) })
	add(len(s.Timers), func(i int) { s.Timers[i].Node = number })
	add(len(s.Timers), func(i int) { s.Timers[i].When = time })
	add(len(s.Subs), func(i int) { s.Subs[i].Key = longer })
	add(len(s.Subs), func(i int) { s.Subs[i].Node = number })
	add(len(s.Kept), func(i int) { s.Kept[i].Node = number })
	add(len(s.Kept), func(i int) { s.Kept[i].Token = anyKey(g) })
	add(len(s.Listed), func(i int) { s.Listed[i].Key = longer })
	add(len(s.Listed), func(i int) { s.Listed[i].Vars = bad })
	add(len(s.Messages), func(i int) { s.Messages[i].For = longer })
	add(len(s.Messages), func(i int) { s.Messages[i].Until = time })
	add(len(s.Messages), func(i int) { s.Messages[i].Insts = tops(pick(g, 1, 1000, 1700)) })
	if len(l) > 0 {
		pick(g, l...)()
	}
}

// P14.1, P14.2 and P14.4: whatever states hold, those that may be have rows, which
// are read as the state that it was.
func TestRandomStates(t *testing.T) {
	g := rand.New(rand.NewSource(14))
	mays := 0
	for i := range 3000 {
		s := random(g)
		for range g.Intn(3) {
			disturb(g, &s)
		}
		if mayBe(s) {
			mays++
			mustBe(t, fmt.Sprint("state ", i), s)
		} else {
			mustNotBe(t, fmt.Sprint("state ", i), s)
		}
		if t.Failed() {
			return
		}
	}
	if mays < 1000 || mays > 2500 {
		t.Errorf("%d of 3000 may be", mays)
	}
}

// spoilt are rows with one of them changed, or more or fewer of them.
func spoilt(g *rand.Rand, l []row) []row {
	i := g.Intn(len(l))
	r := l[i]
	change := func(s string) string {
		if s == "" {
			return string([]byte{byte(g.Intn(256))})
		}
		at := g.Intn(min(len(s), pick(g, 2, 12, 20000)))
		switch g.Intn(4) {
		case 0:
			return s[:at] + string([]byte{s[at] ^ 1<<g.Intn(8)}) + s[at+1:]
		case 1:
			return s[:at] + string([]byte{byte(g.Intn(256))}) + s[at:]
		case 2:
			return s[:at] + s[at+1:]
		}
		return s[:at] + string([]byte{s[at] | 128, 0}) + s[at+1:]
	}
	switch g.Intn(6) {
	case 0:
		return without(l, i)
	case 1:
		return insert(l, g.Intn(len(l)+1), r)
	case 2:
		return put(l, i, row{change(r.key), r.value})
	case 3:
		return put(l, i, l[g.Intn(len(l))])
	}
	return put(l, i, row{r.key, change(r.value)})
}

// P14.2 and P14.3: of rows near a state's, just those are read that are one's; and
// whichever they are, the changes are those that the words say.
func TestRandomRows(t *testing.T) {
	g := rand.New(rand.NewSource(15))
	reads := 0
	for i := range 4000 {
		s := random(g)
		if !mayBe(s) {
			continue
		}
		l := spoilt(g, written(s))
		if mustReadAsTheWords(t, fmt.Sprint("rows ", i), l) {
			reads++
		}
		if got := keep.Changes(over(l...), s); !slices.Equal(got, changesOf(l, s)) {
			t.Errorf("changes %d: %+v, want %+v", i, got, changesOf(l, s))
		}
		if t.Failed() {
			return
		}
	}
	if reads < 700 || reads > 3000 {
		t.Errorf("%d are read", reads)
	}
}

// mustHold: the store has just these rows.
func mustHold(t *testing.T, what string, st *store.Store, want []row) {
	t.Helper()
	if got := told(t, what, st.From("")); !slices.Equal(got, want) {
		t.Errorf("%s: the store has %s, want %s", what, show(got), show(want))
	}
}

// P14.4: a store to which the changes are applied, all at once or one by one, has just
// the state's rows, from one state to the next; what it has is read as the state.
func TestChangesInAStore(t *testing.T) {
	g := rand.New(rand.NewSource(16))
	d, d2 := disk.New(), disk.New()
	st, err := store.Open(d, 1024, 4)
	one, err2 := store.Open(d2, 64, 2)
	if err != api.OK || err2 != api.OK {
		t.Fatal(err, err2)
	}
	for i := range 300 {
		s := random(g)
		if !mayBe(s) {
			continue
		}
		what := fmt.Sprint("state ", i)
		changes := keep.Changes(st.From(""), s)
		if err := st.Apply(changes); err != api.OK {
			t.Fatalf("%s: %d", what, err)
		}
		for _, c := range changes {
			if err := one.Apply([]api.Change{c}); err != api.OK {
				t.Fatalf("%s: %q: %d", what, c.K, err)
			}
		}
		mustHold(t, what, st, written(s))
		mustHold(t, what, one, written(s))
		if got, err := keep.Read(st.From("")); err != api.OK || !alike(got, s) {
			t.Errorf("%s: read %d", what, err)
		}
		if g.Intn(5) == 0 {
			if err := st.Save(uint64(i)); err != api.OK {
				t.Fatal(err)
			}
			d.Crash(nil)
			if st, err = store.Open(d, 1024, 4); err != api.OK {
				t.Fatal(err)
			}
			mustHold(t, what+", opened again", st, written(s))
		}
		if t.Failed() {
			return
		}
	}
}

// P14.4: from each state that events come to, to the next one, the changes are few, and
// make of its rows the next one's.
func TestChangesAlongEvents(t *testing.T) {
	g := rand.New(rand.NewSource(17))
	var s api.State
	rows := map[string]string{}
	for i := range 1500 {
		r := api.Record{
			Class: pick(g, api.Command, api.Event, api.Event, api.Event, api.Event, api.Refusal), Kind: 1 + g.Intn(24), From: uint64(i),
			Key: uint64(g.Intn(30)), Key2: uint64(g.Intn(30)), Key3: uint64(g.Intn(3)), N: int64(g.Intn(5)), M: int64(g.Intn(5)),
			A: pick(g, "p", "q", "m"), B: pick(g, "k", "l"), C: pick(g, "", "id"), Vars: pick(g, nil, []api.Var{num("x", int64(i))}),
		}
		next := fold.Apply(s, uint64(i+1), r)
		changes := keep.Changes(keep.Rows(s), next)
		if !slices.Equal(changes, changesOf(written(s), next)) || len(changes) == 0 || changes[0].K != "a" {
			t.Fatalf("%+v: %+v", r, changes)
		}
		for _, c := range changes {
			if c.Cell.Gone {
				delete(rows, c.K)
			} else {
				rows[c.K] = c.Cell.S
			}
		}
		s = next
		want := written(s)
		if len(rows) != len(want) || !every(want, func(r row) bool { v, has := rows[r.key]; return has && v == r.value }) {
			t.Fatalf("%+v: %d rows, want %s", r, len(rows), show(want))
		}
		if i%10 == 0 {
			mustBe(t, fmt.Sprint("behind event ", i), s)
		}
	}
}

// P14.4: no two states that aren't the same have the same rows.
func TestNoTwoHaveTheSameRows(t *testing.T) {
	g := rand.New(rand.NewSource(18))
	of := map[string]api.State{}
	for range 1500 {
		s := random(g)
		if g.Intn(2) == 0 { // small ones meet more often
			s = api.State{Pos: uint64(g.Intn(3)), Kept: s.Kept[:min(1, len(s.Kept))], Procs: s.Procs[:min(1, len(s.Procs))]}
		}
		if !mayBe(s) {
			continue
		}
		rows := fmt.Sprintf("%q", told(t, "a state", keep.Rows(s)))
		if other, has := of[rows]; has && !fold.Same(s, other) {
			t.Errorf("%+v and %+v", s, other)
		}
		of[rows] = s
	}
}

// R5 and the bounds: of many elements too, all is as said.
func TestManyElements(t *testing.T) {
	var s api.State
	for i := range 20000 {
		s.Tokens = append(s.Tokens, api.Token{Key: uint64(i) << 8, Inst: uint64(i), Node: i % 40})
		s.Timers = append(s.Timers, api.Timer{Token: uint64(i / 7), Node: i % 7, When: int64(i)})
	}
	if !keep.May(s) {
		t.Fatal("may not be")
	}
	rows := told(t, "many", keep.Rows(s))
	if !slices.Equal(rows, written(s)) {
		t.Error("rows")
	}
	mustRead(t, "many", rows, s)
	s.Tokens[19999].Key = s.Tokens[19998].Key
	if keep.May(s) {
		t.Error("the last two of one key")
	}
}
