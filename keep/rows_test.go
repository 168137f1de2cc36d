package keep_test

import (
	"fmt"
	"reflect"
	"slices"
	"strings"
	"testing"

	"wherry/api"
	"wherry/keep"
)

// P14.1: the rows of a state with an element in each list, byte by byte.
func TestRowsOfEachList(t *testing.T) {
	one := []api.Var{num("x", 1)}
	s := api.State{
		Pos: 9, Done: 4, Made: 300,
		Procs:    []api.Deployed{{Id: "pr", Bytes: "xyz"}},
		Insts:    []api.Instance{{Key: 5, Id: "p", Vars: one}},
		Tokens:   []api.Token{{Key: 7, Inst: 5, Scope: 6, Node: 2, By: -1, Stuck: "loop"}},
		Jobs:     []api.Job{{Key: 8, Token: 7, Type: "pay", Retries: 3, Worker: "w", Until: 64}},
		Timers:   []api.Timer{{Token: 7, Node: 300, When: 60}},
		Subs:     []api.Sub{{Token: 7, Inst: 5, Node: 4, Name: "m", Key: "k", Open: true}},
		Kept:     []api.Kept{{Token: 1, Message: 2, Node: 3}},
		Listed:   []api.Listed{{Token: 7, Inst: 5, Node: 4, Name: "m", Key: "k", Message: 6, Vars: one}},
		Messages: []api.Message{{Key: 6, Name: "m", For: "k", Id: "id", Until: 99, Vars: one, Insts: []uint64{300, 4}}},
	}
	zeros := strings.Repeat("\x00", 7)
	want := []row{
		{"a", "\x09\x04\xac\x02"},
		{"g" + zeros + "\x06", "\x01m\x01k\x02id\xc6\x01\x01\x01x\x01\x02\x02\xac\x02\x04"},
		{"i" + zeros + "\x05", "\x01p\x01\x01x\x01\x02"},
		{"j" + zeros + "\x08", "\x07\x03pay\x06\x01w\x80\x01"},
		{"k" + zeros + "\x01\x00\x03", "\x02"},
		{"l" + zeros + "\x07\x00\x04", "\x05\x01m\x01k\x06\x01\x01x\x01\x02"},
		{"ppr", "\x03xyz"},
		{"r" + zeros + "\x07\x01\x2c", "\x78"},
		{"s" + zeros + "\x07\x00\x04", "\x05\x01m\x01k\x02"},
		{"t" + zeros + "\x07", "\x05\x06\x04\x01\x04loop"},
	}
	if got := told(t, "each list", keep.Rows(s)); !slices.Equal(got, want) {
		t.Errorf("%s, want %s", show(got), show(want))
	}
	mustBe(t, "each list", s)
	mustRead(t, "each list", want, s)
}

// P14.1: elements of which all but the key is 0.
func TestRowsOfZeros(t *testing.T) {
	s := api.State{
		Procs: []api.Deployed{{}}, Insts: []api.Instance{{}}, Tokens: []api.Token{{}}, Jobs: []api.Job{{}}, Timers: []api.Timer{{}},
		Subs: []api.Sub{{}}, Kept: []api.Kept{{}}, Listed: []api.Listed{{}}, Messages: []api.Message{{}},
	}
	eight, ten := strings.Repeat("\x00", 8), strings.Repeat("\x00", 10)
	want := []row{
		{"a", "\x00\x00\x00"}, {"g" + eight, "\x00\x00\x00\x00\x00\x00"}, {"i" + eight, "\x00\x00"}, {"j" + eight, "\x00\x00\x00\x00\x00"},
		{"k" + ten, "\x00"}, {"l" + ten, "\x00\x00\x00\x00\x00"}, {"p", "\x00"}, {"r" + ten, "\x00"},
		{"s" + ten, "\x00\x00\x00\x00"}, {"t" + eight, "\x00\x00\x00\x00\x00"},
	}
	if got := told(t, "zeros", keep.Rows(s)); !slices.Equal(got, want) {
		t.Errorf("%s, want %s", show(got), show(want))
	}
	mustBe(t, "zeros", s)
}

// P14.1: keys have their highest byte first, and Nodes stand behind them likewise.
func TestRowsKeys(t *testing.T) {
	for list, of := range ofKeys() {
		letter := map[string]string{"Insts": "i", "Tokens": "t", "Jobs": "j", "Messages": "g"}[list]
		got := told(t, list, keep.Rows(of(1, 0x0102, 0x0102030405060708, 1<<63, top)))
		for i, want := range []string{"\x00\x00\x00\x00\x00\x00\x00\x01", "\x00\x00\x00\x00\x00\x00\x01\x02", "\x01\x02\x03\x04\x05\x06\x07\x08", "\x80\x00\x00\x00\x00\x00\x00\x00", "\xff\xff\xff\xff\xff\xff\xff\xff"} {
			if len(got) != 6 || got[i+1].key != letter+want {
				t.Fatalf("%s: %s, want %q", list, show(got), letter+want)
			}
		}
	}
	for list, of := range ofPlaces() {
		letter := map[string]string{"Timers": "r", "Subs": "s", "Kept": "k", "Listed": "l"}[list]
		got := told(t, list, keep.Rows(of(place{1, 0}, place{1, 30000}, place{0x0102030405060708, 0x0102}, place{top, 255}, place{top, 256})))
		for i, want := range []string{"\x00\x00\x00\x00\x00\x00\x00\x01\x00\x00", "\x00\x00\x00\x00\x00\x00\x00\x01\x75\x30", "\x01\x02\x03\x04\x05\x06\x07\x08\x01\x02", "\xff\xff\xff\xff\xff\xff\xff\xff\x00\xff", "\xff\xff\xff\xff\xff\xff\xff\xff\x01\x00"} {
			if len(got) != 6 || got[i+1].key != letter+want {
				t.Fatalf("%s: %s, want %q", list, show(got), letter+want)
			}
		}
	}
}

// P14.1: rows rise, whatever the lists have.
func TestRowsRise(t *testing.T) {
	rows := told(t, "full", keep.Rows(full()))
	if len(rows) != 1+4+3+3+2+3+2+3+2+2 {
		t.Errorf("%d rows", len(rows))
	}
	if !rises(rows, func(a, b row) bool { return a.key < b.key }) {
		t.Errorf("%s", show(rows))
	}
}

// P14.1: a range may be ranged over again, within itself too, and left at any row.
func TestRowsAgainAndLeft(t *testing.T) {
	want := written(full())
	rows := keep.Rows(full())
	for range 3 {
		if got := told(t, "again", rows); !slices.Equal(got, want) {
			t.Errorf("again: %s", show(got))
		}
	}
	for n := range len(want) {
		var got []row
		for k, v := range rows {
			got = append(got, row{k, v})
			if len(got) > n {
				break
			}
		}
		if !slices.Equal(got, want[:n+1]) {
			t.Errorf("left behind %d: %s", n, show(got))
		}
	}
	for k := range rows {
		if got := told(t, "within", rows); !slices.Equal(got, want) {
			t.Errorf("within, at %q: %s", k, show(got))
		}
	}
	// One that was told to end tells no more.
	for n := range len(want) {
		asked := 0
		rows(func(string, string) bool {
			asked++
			return asked <= n
		})
		if asked != n+1 {
			t.Errorf("asked %d times, left at %d", asked, n)
		}
	}
}

// overwrite makes other values of all that lists have, their spare room too.
func overwrite(v reflect.Value) {
	switch v.Kind() {
	case reflect.Slice:
		v = v.Slice(0, v.Cap())
		for i := range v.Len() {
			overwrite(v.Index(i))
			v.Index(i).SetZero()
		}
	case reflect.Struct:
		for i := range v.NumField() {
			overwrite(v.Field(i))
		}
	}
}

// R3: what is handed in to Rows isn't kept: the rows stay what they were.
func TestRowsKeepNothing(t *testing.T) {
	s := full()
	want := written(s)
	rows, begun := keep.Rows(s), keep.Rows(s)
	n := 0
	for k, v := range begun {
		if n == 2 {
			overwrite(reflect.ValueOf(&s).Elem())
		}
		if want[n] != (row{k, v}) {
			t.Errorf("%d: %q %x, want %s", n, k, v, show(want[n:n+1]))
		}
		n++
	}
	if got := told(t, "overwritten", rows); n != len(want) || !slices.Equal(got, want) {
		t.Errorf("%s, want %s", show(got), show(want))
	}
	// Nor does one that may not be become one, nor the other way round.
	s = api.State{Jobs: []api.Job{{Key: 2}, {Key: 1}}}
	rows = keep.Rows(s)
	s.Jobs[1].Key = 3
	if got := told(t, "may not be", rows); len(got) > 0 {
		t.Errorf("%s", show(got))
	}
	rows = keep.Rows(s)
	s.Jobs[1].Key = 1
	if got := told(t, "may be", rows); len(got) != 3 {
		t.Errorf("%s", show(got))
	}
}

// R3: no call writes into what is handed in, nor into its spare room.
func TestNothingIsWritten(t *testing.T) {
	s := full()
	roomy(reflect.ValueOf(&s).Elem())
	before := room(s)
	keep.May(s)
	told(t, "full", keep.Rows(s))
	keep.Changes(nil, s)
	keep.Changes(keep.Rows(s), s)
	keep.Changes(over(row{"b", "x"}), s)
	if !reflect.DeepEqual(room(s), before) {
		t.Error("the state is changed")
	}
	mustBe(t, "with spare room", s)
}

// roomy lays spare room behind each list, in which something stands.
func roomy(v reflect.Value) {
	switch v.Kind() {
	case reflect.Slice:
		for i := range v.Len() {
			roomy(v.Index(i))
		}
		n := v.Len()
		wide := reflect.AppendSlice(reflect.MakeSlice(v.Type(), 0, n+3), v)
		for range 3 {
			x := reflect.New(v.Type().Elem()).Elem()
			if n > 0 {
				x.Set(tidy(v.Index(0)))
			}
			wide = reflect.Append(wide, x)
		}
		v.Set(wide.Slice(0, n))
	case reflect.Struct:
		for i := range v.NumField() {
			roomy(v.Field(i))
		}
	}
}

// room is what stands in the memory of all lists, their spare room too.
func room[T any](x T) T {
	var wide func(v reflect.Value)
	wide = func(v reflect.Value) {
		switch v.Kind() {
		case reflect.Slice:
			all := v.Slice(0, v.Cap())
			out := reflect.MakeSlice(v.Type(), all.Len(), all.Len())
			reflect.Copy(out, all)
			for i := range out.Len() {
				wide(out.Index(i))
			}
			v.Set(out)
		case reflect.Struct:
			for i := range v.NumField() {
				wide(v.Field(i))
			}
		}
	}
	wide(reflect.ValueOf(&x).Elem())
	return x
}

// span is a piece of memory.
type span struct {
	from, to uintptr
	what     string
}

// spans are the pieces of memory of all lists of a value, their spare room too.
func spans(v reflect.Value, what string) []span {
	var l []span
	switch v.Kind() {
	case reflect.Slice:
		if size := uintptr(v.Cap()) * v.Type().Elem().Size(); size > 0 {
			l = append(l, span{v.Pointer(), v.Pointer() + size, what})
		}
		for i := range v.Cap() {
			l = append(l, spans(v.Slice(0, v.Cap()).Index(i), fmt.Sprintf("%s[%d]", what, i))...)
		}
	case reflect.Struct:
		for i := range v.NumField() {
			l = append(l, spans(v.Field(i), what+"."+v.Type().Field(i).Name)...)
		}
	}
	return l
}

// R3: what Read answers is new memory, and no two lists of it share any.
func TestReadIsNew(t *testing.T) {
	rows := keep.Rows(full())
	a, _ := keep.Read(rows)
	b, _ := keep.Read(rows)
	l := append(spans(reflect.ValueOf(a), "one answer"), spans(reflect.ValueOf(b), "another answer")...)
	if len(l) < 24 {
		t.Fatalf("only %d lists", len(l))
	}
	for i, x := range l {
		for _, y := range l[i+1:] {
			if x.from < y.to && y.from < x.to {
				t.Errorf("%s shares memory with %s", x.what, y.what)
			}
		}
	}
	overwrite(reflect.ValueOf(&a).Elem())
	if c, err := keep.Read(rows); err != api.OK || !alike(b, full()) || !alike(c, full()) {
		t.Errorf("%+v %+v", b, c)
	}
}

// R3: what Changes answers is new memory each time.
func TestChangesAreNew(t *testing.T) {
	a, b := keep.Changes(nil, full()), keep.Changes(nil, full())
	want := changesOf(nil, full())
	clear(a[:cap(a)])
	if !slices.Equal(b, want) || !slices.Equal(keep.Changes(nil, full()), want) {
		t.Errorf("%+v", b)
	}
}
