package rec_test

import (
	"fmt"
	"math"
	"slices"
	"strings"
	"testing"

	"wherry/api"
	"wherry/rec"
)

// times is a text of n times s.
func times(n int, s string) string { return strings.Repeat(s, n) }

// num, truth and text are variables of the three kinds.
func num(name string, n int64) api.Var {
	return api.Var{Name: name, V: api.Value{Kind: api.Int, N: n}}
}
func truth(name string, n int64) api.Var {
	return api.Var{Name: name, V: api.Value{Kind: api.Bool, N: n}}
}
func text(name, s string) api.Var {
	return api.Var{Name: name, V: api.Value{Kind: api.Text, S: s}}
}

// many are n variables whose names rise.
func many(n int) []api.Var {
	var l []api.Var
	for i := range n {
		l = append(l, num(fmt.Sprintf("v%02d", i), int64(i)))
	}
	return l
}

// command, event and refusal are records that may be, if their kind may.
func command(kind int) api.Record { return api.Record{Class: api.Command, Kind: kind} }
func event(kind int) api.Record   { return api.Record{Class: api.Event, Kind: kind, From: 1} }
func refusal(kind int) api.Record { return api.Record{Class: api.Refusal, Kind: kind, From: 1} }

// full is a record no field of which is its zero value.
func full() api.Record {
	return api.Record{
		Class: api.Event, Kind: api.EPublished, From: 9, Time: 7, Key: 300, Key2: 1 << 40, Key3: 5, N: -3, M: 64,
		A: "paid", B: "key", C: "id", Vars: []api.Var{num("a", -1), truth("b", 1), text("c", "x\x00")},
	}
}

// with is r changed.
func with(r api.Record, change func(r *api.Record)) api.Record {
	r.Vars = slices.Clone(r.Vars)
	change(&r)
	return r
}

// tell names a record in what a test says of it.
func tell(r api.Record) string { return fmt.Sprintf("%.300s", fmt.Sprintf("%#v", r)) }

// mustBe: the record may be, and its bytes are what the promise tells.
func mustBe(t *testing.T, what string, r api.Record) {
	t.Helper()
	if !rec.May(r) {
		t.Errorf("May(%s): false", what)
	}
	if s, err := rec.Bytes(r); err != api.OK || s != written(r) {
		t.Errorf("Bytes(%s): %.200x %d, want %.200x", what, s, err, written(r))
	}
}

// mustNotBe: the record may not be, and has no bytes.
func mustNotBe(t *testing.T, what string, r api.Record) {
	t.Helper()
	if rec.May(r) {
		t.Errorf("May(%s): true", what)
	}
	if s, err := rec.Bytes(r); err != api.ErrArg || s != "" {
		t.Errorf("Bytes(%s): %.200x %d, want ErrArg", what, s, err)
	}
}

// mustBeJust: the record may be, just if that is wanted.
func mustBeJust(t *testing.T, what string, r api.Record, want bool) {
	t.Helper()
	if want {
		mustBe(t, what, r)
	} else {
		mustNotBe(t, what, r)
	}
}

// P12.1: the chapter's examples.
func TestExamples(t *testing.T) {
	r := api.Record{Class: api.Command, Kind: 7, Key: 5}
	if s, err := rec.Bytes(r); err != api.OK || s != "\x01\x07\x00\x00\x05\x00\x00\x00\x00\x00\x00\x00\x00" {
		t.Errorf("%x %d", s, err)
	}
	if s, err := rec.Bytes(api.Record{Kind: 7, Key: 5}); err != api.ErrArg || s != "" {
		t.Errorf("of Class 0: %x %d", s, err)
	}
}

// P12.1: which kinds each class has, and that no other class has any.
func TestMayOfClassesAndKinds(t *testing.T) {
	last := map[int]int{api.Command: 16, api.Event: 24, api.Refusal: 16}
	numbers := []int{math.MinInt, math.MinInt32, -256, -1, 1 << 8, 1<<8 + 1, 1<<8 + 7, 1<<16 + 1, 1<<32 + 1, math.MaxInt}
	for i := range 30 {
		numbers = append(numbers, i)
	}
	for _, class := range numbers {
		for _, kind := range numbers {
			for _, from := range []uint64{0, 1} {
				r := api.Record{Class: class, Kind: kind, From: from}
				want := kind >= 1 && kind <= last[class] && (from == 0) == (class == api.Command)
				mustBeJust(t, fmt.Sprintf("class %d, kind %d, from %d", class, kind, from), r, want)
			}
		}
	}
}

// P12.1: From is 0 of a command, and of no other record.
func TestMayOfFrom(t *testing.T) {
	for _, from := range []uint64{0, 1, 2, 127, 128, 1 << 32, 1 << 40, 1 << 63, math.MaxUint64} {
		set := func(r *api.Record) { r.From = from }
		mustBeJust(t, fmt.Sprintf("a command from %d", from), with(command(2), set), from == 0)
		mustBeJust(t, fmt.Sprintf("an event from %d", from), with(event(2), set), from > 0)
		mustBeJust(t, fmt.Sprintf("a refusal from %d", from), with(refusal(2), set), from > 0)
	}
}

// P12.1: Time is 0 to 2^40.
func TestMayOfTime(t *testing.T) {
	for _, r := range []api.Record{command(9), event(9), refusal(9)} {
		for _, time := range []int64{0, 1, 63, 64, 1 << 31, 1<<40 - 1, 1 << 40} {
			r.Time = time
			mustBe(t, fmt.Sprintf("the time %d", time), r)
		}
		for _, time := range []int64{-1, -2, -1 << 40, math.MinInt64, 1<<40 + 1, 1 << 41, math.MaxInt64} {
			r.Time = time
			mustNotBe(t, fmt.Sprintf("the time %d", time), r)
		}
	}
}

// P12.1: how long A, B and C may be, of every kind: 32, 1024 and 32 bytes, but for
// A of the command CDeploy and B of the event EDeployed, for which there is room
// to the end of the record.
func TestMayOfTexts(t *testing.T) {
	lengths := []int{0, 1, 31, 32, 33, 1023, 1024, 1025, 2000, 4000, 4081, 4082, 8191, 8192, 8193, 20000}
	for _, r := range allKinds() {
		mostA, mostB := 32, 1024
		if r.Class == api.Command && r.Kind == api.CDeploy {
			mostA = 4096 - 14 // 13 bytes as in the chapter's example, and one more of this text's length
		}
		if r.Class == api.Event && r.Kind == api.EDeployed {
			mostB = 4096 - 14
		}
		for _, n := range lengths {
			for _, c := range []string{"x", "\x00", "\xff"} {
				s := times(n, c)
				what := fmt.Sprintf("%d bytes of class %d, kind %d: ", n, r.Class, r.Kind)
				mustBeJust(t, what+"A", with(r, func(r *api.Record) { r.A = s }), n <= mostA)
				mustBeJust(t, what+"B", with(r, func(r *api.Record) { r.B = s }), n <= mostB)
				mustBeJust(t, what+"C", with(r, func(r *api.Record) { r.C = s }), n <= 32)
			}
		}
	}
}

// allKinds are records of all classes and kinds, nothing else in them.
func allKinds() []api.Record {
	var l []api.Record
	for kind := 1; kind <= 16; kind++ {
		l = append(l, command(kind), refusal(kind))
	}
	for kind := 1; kind <= 24; kind++ {
		l = append(l, event(kind))
	}
	return l
}

// rightVars are lists of variables that are right; all of them have room in a record.
func rightVars() map[string][]api.Var {
	return map[string][]api.Var{
		"none":          nil,
		"an empty list": {},
		"one":           {num("x", 1)},
		"three kinds":   {num("a", math.MinInt64), truth("b", 0), text("c", "")},
		"names rise":    {num("a", 1), num("a0", 1), num("a_", 1), num("aa", 1), num("b", math.MaxInt64)},
		"the longest":   {text(times(32, "n"), times(1024, "\xff"))},
		"sixteen":       many(16),
		"two texts":     {text("a", times(1024, "x")), text("b", times(1024, "x"))},
	}
}

// wrongVars are lists that aren't right.
func wrongVars() map[string][]api.Var {
	return map[string][]api.Var{
		"seventeen":        many(17),
		"no name":          {num("", 1)},
		"a great letter":   {num("X", 1)},
		"a digit ahead":    {num("1a", 1)},
		"a word":           {num("and", 1)},
		"a long name":      {num(times(33, "n"), 1)},
		"a name twice":     {num("a", 1), num("a", 1)},
		"names that fall":  {num("b", 1), num("a", 1)},
		"no kind":          {{Name: "a"}},
		"kind 4":           {{Name: "a", V: api.Value{Kind: 4}}},
		"an Int with S":    {{Name: "a", V: api.Value{Kind: api.Int, S: "s"}}},
		"a Bool of 2":      {truth("a", 2)},
		"a Text with N":    {{Name: "a", V: api.Value{Kind: api.Text, N: 1}}},
		"a long Text":      {text("a", times(1025, "x"))},
		"wrong at the end": {num("a", 1), num("b", 1), truth("c", -1)},
		"the zero one":     {{}},
	}
}

// P12.1: variables are right, of every kind.
func TestMayOfVars(t *testing.T) {
	for _, r := range allKinds() {
		for what, l := range rightVars() {
			r.Vars = l
			mustBe(t, what, r)
		}
		for what, l := range wrongVars() {
			r.Vars = l
			mustNotBe(t, what, r)
		}
	}
}

// grown is r with so many bytes, by more bytes of the text that at finds.
func grown(t *testing.T, r api.Record, bytes int, at func(r *api.Record) *string) api.Record {
	t.Helper()
	for {
		missing := bytes - len(written(r))
		if missing == 0 {
			return r
		}
		if missing < 0 {
			t.Fatalf("%d bytes can't be: %s", bytes, tell(r))
		}
		*at(&r) += times(max(1, missing-2), "g")
	}
}

// P12.1: the bytes are at most 4096, whichever field they come from.
func TestMayOfManyBytes(t *testing.T) {
	texts := []api.Var{text("a", times(1024, "x")), text("b", times(1024, "x")), text("c", times(1024, "x")), text("d", "")}
	for _, x := range []struct {
		what string
		r    api.Record
		at   func(r *api.Record) *string
	}{
		{"a process", command(api.CDeploy), func(r *api.Record) *string { return &r.A }},
		{"a process that was", event(api.EDeployed), func(r *api.Record) *string { return &r.B }},
		{"a process and numbers", with(command(api.CDeploy), func(r *api.Record) { r.Key, r.M = math.MaxUint64, math.MinInt64 }), func(r *api.Record) *string { return &r.A }},
		{"a key and variables", with(full(), func(r *api.Record) { r.Vars = texts }), func(r *api.Record) *string { return &r.B }},
		{"variables", with(refusal(2), func(r *api.Record) { r.Vars = slices.Clone(texts) }), func(r *api.Record) *string {
			r.Vars = slices.Clone(r.Vars)
			return &r.Vars[3].V.S
		}},
	} {
		for _, bytes := range []int{4094, 4095, 4096, 4097, 4098} {
			r := grown(t, x.r, bytes, x.at)
			what := fmt.Sprintf("%s, %d bytes", x.what, bytes)
			mustBeJust(t, what, r, bytes <= 4096)
			if bytes <= 4096 {
				mustTake(t, what, written(r), r)
			} else {
				mustNotTake(t, what, written(r))
			}
		}
	}
	for _, n := range []int{8192, 8193} {
		mustNotBe(t, "A", with(command(api.CDeploy), func(r *api.Record) { r.A = times(n, "x") }))
		mustNotBe(t, "B", with(event(api.EDeployed), func(r *api.Record) { r.B = times(n, "x") }))
	}
	mustNotBe(t, "sixteen long texts", with(full(), func(r *api.Record) {
		r.Vars = many(16)
		for i := range r.Vars {
			r.Vars[i] = text(r.Vars[i].Name, times(1024, "x"))
		}
	}))
}

// P12.1: where several fields are wrong the answer is still ErrArg, and nothing.
func TestMayOfSeveralFaults(t *testing.T) {
	mustNotBe(t, "the zero record", api.Record{})
	mustNotBe(t, "all wrong", api.Record{Class: -1, Kind: -1, From: 1, Time: -1, A: times(9000, "a"), B: times(9000, "b"), C: times(9000, "c"), Vars: many(17)})
	mustNotBe(t, "a command of an event's kind", api.Record{Class: api.Command, Kind: 24, From: 1})
}

// P12.1: bytes written out, each field with bytes of its own.
func TestBytesWrittenOut(t *testing.T) {
	for _, x := range []struct {
		r    api.Record
		want string
	}{
		{full(), "\x02\x13\x09\x0e\xac\x02\x80\x80\x80\x80\x80\x20\x05\x05\x80\x01\x04paid\x03key\x02id\x03\x01a\x01\x01\x01b\x02\x02\x01c\x03\x02x\x00"},
		{command(16), "\x01\x10\x00\x00\x00\x00\x00\x00\x00\x00\x00\x00\x00"},
		{event(24), "\x02\x18\x01\x00\x00\x00\x00\x00\x00\x00\x00\x00\x00"},
		{refusal(1), "\x03\x01\x01\x00\x00\x00\x00\x00\x00\x00\x00\x00\x00"},
		{api.Record{Class: 3, Kind: 2, From: 128, Time: 64, Key: 1, Key2: 2, Key3: 3, N: 1, M: -1, A: "a", B: "b", C: "c"}, "\x03\x02\x80\x01\x80\x01\x01\x02\x03\x02\x01\x01a\x01b\x01c\x00"},
		{api.Record{Class: 1, Kind: 1, Time: 1 << 40}, "\x01\x01\x00\x80\x80\x80\x80\x80\x40\x00\x00\x00\x00\x00\x00\x00\x00\x00"},
	} {
		if s, err := rec.Bytes(x.r); err != api.OK || s != x.want {
			t.Errorf("%s: %x %d, want %x", tell(x.r), s, err, x.want)
		}
	}
}

// atBounds are records with numbers at the bounds of their types.
func atBounds() []api.Record {
	var l []api.Record
	for _, u := range []uint64{0, 1, 127, 128, 1<<32 - 1, 1 << 32, 1 << 40, 1<<63 - 1, 1 << 63, math.MaxUint64 - 1, math.MaxUint64} {
		l = append(l, api.Record{Class: 1, Kind: 3, Key: u}, api.Record{Class: 1, Kind: 3, Key2: u}, api.Record{Class: 1, Kind: 3, Key3: u})
		l = append(l, api.Record{Class: 2, Kind: 3, From: max(1, u)}, api.Record{Class: 3, Kind: 3, From: max(1, u), Key: u, Key2: u, Key3: u})
	}
	for _, n := range []int64{0, 1, -1, 63, 64, -64, -65, math.MaxInt32, math.MinInt32, math.MaxInt64 - 1, math.MaxInt64, math.MinInt64 + 1, math.MinInt64} {
		l = append(l, api.Record{Class: 1, Kind: 3, N: n}, api.Record{Class: 1, Kind: 3, M: n}, api.Record{Class: 2, Kind: 3, From: math.MaxUint64, N: n, M: n})
	}
	for _, time := range []int64{0, 1, 1<<40 - 1, 1 << 40} {
		l = append(l, api.Record{Class: 1, Kind: 3, Time: time})
	}
	return l
}

// P12.1, P12.2: numbers at the bounds of their types are written, and taken.
func TestBounds(t *testing.T) {
	for _, r := range atBounds() {
		mustBe(t, tell(r), r)
		mustTake(t, tell(r), written(r), r)
	}
}

// P12.1 and R3: what is handed in is not written into, nor its spare room.
func TestNothingIsChanged(t *testing.T) {
	room := append(many(16), num("spare", 1))
	r := full()
	r.Vars = room[:3]
	before, all := full(), slices.Clone(room)
	before.Vars = all[:3]
	for range 2 {
		s, _ := rec.Bytes(r)
		rec.May(r)
		rec.Same(r, before)
		rec.Take(s)
		if !same(r, before) || !slices.Equal(room, all) {
			t.Fatalf("%s", tell(r))
		}
	}
}
