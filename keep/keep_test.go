package keep_test

import (
	"fmt"
	"iter"
	"slices"
	"strings"
	"testing"

	"wherry/api"
	"wherry/fold"
	"wherry/keep"
)

func num(name string, n int64) api.Var {
	return api.Var{Name: name, V: api.Value{Kind: api.Int, N: n}}
}

func truth(name string, n int64) api.Var {
	return api.Var{Name: name, V: api.Value{Kind: api.Bool, N: n}}
}

func text(name, s string) api.Var {
	return api.Var{Name: name, V: api.Value{Kind: api.Text, S: s}}
}

func long(n int) string { return strings.Repeat("x", n) }

// full is a state with several elements in each list.
func full() api.State {
	one := func() []api.Var { return []api.Var{num("x", 1)} }
	two := func() []api.Var { return []api.Var{truth("b", 1), text("s", "k\x00")} }
	return api.State{
		Pos: 9, Done: 4, Made: 300,
		Procs:    []api.Deployed{{Id: "", Bytes: "none"}, {Id: "p", Bytes: "b"}, {Id: "p\x00", Bytes: ""}, {Id: "q", Bytes: long(200)}},
		Insts:    []api.Instance{{Key: 5, Id: "p", Vars: one()}, {Key: 300, Id: "q"}, {Key: 1<<40 + 1, Vars: two()}},
		Tokens:   []api.Token{{Key: 0, Node: -1}, {Key: 7, Inst: 5, Scope: 3, Node: 2, By: -1, Stuck: "loop"}, {Key: 1<<40 + 2, Inst: 1<<40 + 1, Scope: 7, Node: 30000, By: 1000}},
		Jobs:     []api.Job{{Key: 8, Token: 7, Type: "pay", Retries: 3, Worker: "w", Until: 40}, {Key: 256, Token: 300, Retries: -1}},
		Timers:   []api.Timer{{Token: 7, Node: 3, When: 60}, {Token: 7, Node: 300, When: 2}, {Token: 9, Node: 0, When: latest}},
		Subs:     []api.Sub{{Token: 7, Inst: 5, Node: 4, Name: "m", Key: "k", Open: true}, {Token: 7, Inst: 6, Node: 5, Name: "n"}},
		Kept:     []api.Kept{{Token: 1, Message: 2, Node: 3}, {Token: 1, Message: 1, Node: 4}, {Token: 2, Message: 300, Node: 0}},
		Listed:   []api.Listed{{Token: 7, Inst: 5, Node: 4, Name: "m", Key: "k", Message: 6, Vars: one()}, {Token: 8, Inst: 300, Node: 4, Name: "n"}},
		Messages: []api.Message{{Key: 6, Name: "m", For: "k", Id: "id", Until: 99, Vars: two(), Insts: []uint64{5, 4, 300, 5}}, {Key: 10}},
	}
}

// with is full and one thing changed.
func with(change func(s *api.State)) api.State {
	s := full()
	change(&s)
	return s
}

// over ranges over rows.
func over(l ...row) iter.Seq2[string, string] {
	return func(tell func(string, string) bool) {
		for _, r := range l {
			if !tell(r.key, r.value) {
				return
			}
		}
	}
}

// told are the rows that a range tells.
func told(t *testing.T, what string, rows iter.Seq2[string, string]) []row {
	t.Helper()
	if rows == nil {
		t.Fatalf("%s: nil can't be ranged over", what)
	}
	var l []row
	for k, v := range rows {
		l = append(l, row{k, v})
	}
	return l
}

func show(l []row) string {
	var b strings.Builder
	for _, r := range l {
		fmt.Fprintf(&b, "%q:%.60x ", r.key, r.value)
	}
	return b.String()
}

// mustBe: the state may be, its rows are those of the words, and they are read as it
// is.
func mustBe(t *testing.T, what string, s api.State) {
	t.Helper()
	if !mayBe(s) {
		t.Fatalf("%s: the test itself is wrong", what)
	}
	before := deepCopy(s)
	if !keep.May(s) {
		t.Errorf("%s: may not be", what)
	}
	want := written(s)
	if got := told(t, what, keep.Rows(s)); !slices.Equal(got, want) {
		t.Errorf("%s: rows %s, want %s", what, show(got), show(want))
	}
	mustRead(t, what, want, s)
	if !alike(s, before) {
		t.Errorf("%s: the state is changed", what)
	}
}

// mustNotBe: the state may not be: it has no rows, and nobody comes to it.
func mustNotBe(t *testing.T, what string, s api.State) {
	t.Helper()
	if mayBe(s) {
		t.Fatalf("%s: the test itself is wrong", what)
	}
	before := deepCopy(s)
	if keep.May(s) {
		t.Errorf("%s: may be", what)
	}
	if got := told(t, what, keep.Rows(s)); len(got) > 0 {
		t.Errorf("%s: rows %s", what, show(got))
	}
	if got := keep.Changes(over(written(full())...), s); len(got) > 0 {
		t.Errorf("%s: changes %+v", what, got)
	}
	if got := keep.Changes(nil, s); len(got) > 0 {
		t.Errorf("%s: changes of no rows %+v", what, got)
	}
	if !alike(s, before) {
		t.Errorf("%s: the state is changed", what)
	}
}

func mustRead(t *testing.T, what string, rows []row, want api.State) {
	t.Helper()
	got, err := keep.Read(over(rows...))
	if err != api.OK || !alike(got, want) || !fold.Same(got, want) {
		t.Errorf("%s: read %d %+v, want %+v", what, err, got, want)
	}
}

func mustNotRead(t *testing.T, what string, rows []row) {
	t.Helper()
	if got, err := keep.Read(over(rows...)); err != api.ErrForm || !alike(got, api.State{}) {
		t.Errorf("%s: read %d %+v of %s", what, err, got, show(rows))
	}
}

// The chapter's examples.
func TestExamples(t *testing.T) {
	var none api.State
	mustBe(t, "the empty state", none)
	if got := told(t, "the empty state", keep.Rows(none)); !slices.Equal(got, []row{{"a", "\x00\x00\x00"}}) {
		t.Errorf("the empty state: %s", show(got))
	}
	mustRead(t, "the empty state", []row{{"a", "\x00\x00\x00"}}, none)
	mustNotRead(t, "no rows", nil)
	if got, err := keep.Read(nil); err != api.ErrForm || !alike(got, none) {
		t.Errorf("a nil range: %d %+v", err, got)
	}
}
