package rec_test

import (
	"fmt"
	"math"
	"slices"
	"strings"
	"testing"

	"wherry/api"
	"wherry/rec"
)

// mustTake: the bytes are just this record's.
func mustTake(t *testing.T, what, s string, want api.Record) {
	t.Helper()
	if r, err := rec.Take(s); err != api.OK || !same(r, want) || !rec.Same(r, want) {
		t.Errorf("Take(%s): %s %d, want %s", what, tell(r), err, tell(want))
	}
}

// mustNotTake: they are no record's, and there is nothing beside.
func mustNotTake(t *testing.T, what, s string) {
	t.Helper()
	if r, err := rec.Take(s); err != api.ErrForm || !same(r, api.Record{}) {
		t.Errorf("Take(%s): %s %d, want ErrForm", what, tell(r), err)
	}
}

// good are records that may be, those at the edges among them.
func good() []api.Record {
	l := append(allKinds(), full())
	l = append(l, atBounds()...)
	for _, vars := range rightVars() {
		l = append(l, with(full(), func(r *api.Record) { r.Vars = vars }))
	}
	return append(l,
		with(command(api.CDeploy), func(r *api.Record) { r.A = times(3000, "p") }),
		with(command(api.CDeploy), func(r *api.Record) { r.A, r.B, r.C = times(33, "p"), times(1024, "\x00"), times(32, "\xff") }),
		with(event(api.EDeployed), func(r *api.Record) { r.A, r.B, r.C = times(32, "\x80"), times(3000, "\xff"), times(32, "c") }),
		with(refusal(api.CDeploy), func(r *api.Record) { r.A, r.B, r.C = times(32, "a"), times(1024, "b"), times(32, "c") }),
	)
}

// P12.2: a record's bytes, written out, are taken.
func TestTakeWrittenOut(t *testing.T) {
	mustTake(t, "the chapter's example", "\x01\x07\x00\x00\x05\x00\x00\x00\x00\x00\x00\x00\x00", api.Record{Class: 1, Kind: 7, Key: 5})
	mustTake(t, "a full one", "\x02\x13\x09\x0e\xac\x02\x80\x80\x80\x80\x80\x20\x05\x05\x80\x01\x04paid\x03key\x02id\x03\x01a\x01\x01\x01b\x02\x02\x01c\x03\x02x\x00", full())
}

// P12.3: what was written is taken as it was.
func TestWrittenIsTaken(t *testing.T) {
	for _, r := range good() {
		s, err := rec.Bytes(r)
		if err != api.OK {
			t.Errorf("Bytes(%s): %d", tell(r), err)
		}
		mustTake(t, fmt.Sprintf("%.60x", s), s, r)
	}
}

// P12.2, P12.3: no beginning of a record's bytes is one, and nothing longer.
func TestTakeOfPieces(t *testing.T) {
	for _, r := range good() {
		s := written(r)
		for n := range len(s) {
			mustNotTake(t, fmt.Sprintf("%d bytes of %s", n, tell(r)), s[:n])
		}
		for _, behind := range []string{"\x00", "\x01", "\x80", "\xff\xff", "a", s, times(5000, "\x00")} {
			mustNotTake(t, tell(r)+" and more", s+behind)
		}
		mustNotTake(t, "one byte ahead of "+tell(r), "\x01"+s)
	}
}

// P12.2: bytes whose Class or Kind may not be, beside all else that may.
func TestTakeOfClassesAndKinds(t *testing.T) {
	last := map[int]int{1: 16, 2: 24, 3: 16}
	for class := range 256 {
		for kind := range 256 {
			for from := range 2 {
				s := string([]byte{byte(class), byte(kind), byte(from)}) + times(10, "\x00")
				what := fmt.Sprintf("class %d, kind %d, from %d", class, kind, from)
				if kind >= 1 && kind <= last[class] && (from == 0) == (class == 1) {
					mustTake(t, what, s, api.Record{Class: class, Kind: kind, From: uint64(from)})
				} else {
					mustNotTake(t, what, s)
				}
			}
		}
	}
}

// pieces are the bytes of a full record's fields, one by one.
func pieces() []string {
	return []string{"\x02", "\x13", "\x09", "\x0e", "\xac\x02", "\x07", "\x05", "\x05", "\x80\x01", "\x04paid", "\x03key", "\x02id", "\x01\x01a\x01\x02"}
}

// P12.2: fields each of which may not be, in a record all else of which may.
func TestTakeOfWrongFields(t *testing.T) {
	if _, err := rec.Take(strings.Join(pieces(), "")); err != api.OK {
		t.Fatalf("the pieces: %d", err)
	}
	const class, kind, from, time, key, key2, key3, n, m, a, b, c, vars = 0, 1, 2, 3, 4, 5, 6, 7, 8, 9, 10, 11, 12
	for _, x := range []struct {
		what  string
		at    int
		bytes []string
	}{
		{"Class", class, []string{"\x00", "\x01", "\x04", "\x80", "\x82\x00", "\xff"}},
		{"Kind", kind, []string{"\x00", "\x19", "\x80", "\x93", "\x93\x00", "\xff"}},
		{"From", from, []string{"\x00", "\x80\x00", "\x89\x00"}},
		{"Time", time, []string{"\x01", intBytes(-2), intBytes(1<<40 + 1), intBytes(math.MaxInt64), intBytes(math.MinInt64), "\x8e\x00"}},
		{"A", a, []string{textBytes(times(33, "a")), textBytes(times(1024, "a")), "\x84\x00paid", "\x05paid", "\x03paid", uintBytes(math.MaxUint64) + "paid", uintBytes(1<<63) + "paid"}},
		{"B", b, []string{textBytes(times(1025, "b")), textBytes(times(2000, "b")), "\x83\x00key", "\x04key", "\x02key", uintBytes(math.MaxUint64) + "key"}},
		{"C", c, []string{textBytes(times(33, "c")), textBytes(times(1024, "c")), "\x82\x00id", "\x03id", "\x01id", uintBytes(math.MaxUint64) + "id"}},
		{"Vars", vars, []string{"", "\x01", "\x01\x01a", "\x01\x01a\x00\x02", "\x01\x01a\x04\x02", "\x01\x01A\x01\x02", "\x01\x00\x01\x02", "\x01\x03and\x01\x02", "\x01\x01a\x02\x04", "\x01\x01a\x01\x82\x00", "\x01\x81\x00a\x01\x02", "\x81\x00\x01a\x01\x02", "\x80\x00", "\x02\x01a\x01\x02", "\x02\x01a\x01\x02\x01a\x01\x02", "\x02\x01b\x01\x02\x01a\x01\x02", "\x00\x01a\x01\x02", "\x01\x01a\x03" + textBytes(times(1025, "x")), "\x01" + textBytes(times(33, "n")) + "\x01\x02", varsBytes(many(17)), uintBytes(math.MaxUint64)}},
	} {
		for _, s := range x.bytes {
			l := pieces()
			l[x.at] = s
			mustNotTake(t, fmt.Sprintf("%s %.40x", x.what, s), strings.Join(l, ""))
		}
	}
	for at := from; at <= m; at++ {
		for _, s := range []string{"", "\x80", "\x80\x00", "\x87\x00", "\x87\x80\x00", times(9, "\x80") + "\x02", times(10, "\xff") + "\x01", times(11, "\x80")} {
			l := pieces()
			l[at] = s
			mustNotTake(t, fmt.Sprintf("%x for the number %d", s, at), strings.Join(l, ""))
		}
	}
	for _, at := range []int{key, key2, key3, n, m} {
		l := pieces()
		l[at] = uintBytes(math.MaxUint64)
		if _, err := rec.Take(strings.Join(l, "")); err != api.OK {
			t.Errorf("the greatest for the number %d: %d", at, err)
		}
	}
}

// P12.2: how long the texts of what is taken may be, of every kind.
func TestTakeOfTexts(t *testing.T) {
	for _, r := range allKinds() {
		for _, n := range []int{32, 33, 1024, 1025, 4082, 4083, 8192, 8193} {
			for _, x := range []api.Record{
				with(r, func(r *api.Record) { r.A = times(n, "x") }),
				with(r, func(r *api.Record) { r.B = times(n, "x") }),
				with(r, func(r *api.Record) { r.C = times(n, "x") }),
			} {
				if mayBe(x) {
					mustTake(t, tell(x), written(x), x)
				} else {
					mustNotTake(t, tell(x), written(x))
				}
			}
		}
	}
}

// P12.2: bytes that are none at all.
func TestTakeOfAnything(t *testing.T) {
	for _, c := range []string{"\x00", "\x01", "\x02", "\x03", "\x7f", "\x80", "\xff", "a"} {
		for _, n := range []int{0, 1, 2, 3, 12, 14, 100, 4096, 4097, 1 << 20} {
			mustNotTake(t, fmt.Sprintf("%d of %x", n, c), times(n, c))
		}
		mustNotTake(t, fmt.Sprintf("13 of %x", c), times(13, c))
	}
}

// P12.2 and R3: two records of the same bytes share no list.
func TestTakenIsNew(t *testing.T) {
	s := written(full())
	a, _ := rec.Take(s)
	b, _ := rec.Take(s)
	clear(a.Vars[:cap(a.Vars)])
	if !same(b, full()) {
		t.Errorf("%s", tell(b))
	}
	mustTake(t, "the same again", s, full())
}

// changes are changes of full, each of just one field.
func changes() map[string][]func(r *api.Record) {
	return map[string][]func(r *api.Record){
		"Class": {func(r *api.Record) { r.Class++ }, func(r *api.Record) { r.Class = -1 }, func(r *api.Record) { r.Class += 256 }},
		"Kind":  {func(r *api.Record) { r.Kind++ }, func(r *api.Record) { r.Kind = 0 }, func(r *api.Record) { r.Kind += 256 }, func(r *api.Record) { r.Kind += 1 << 32 }},
		"From":  {func(r *api.Record) { r.From++ }, func(r *api.Record) { r.From += 1 << 63 }},
		"Time":  {func(r *api.Record) { r.Time++ }, func(r *api.Record) { r.Time = -r.Time }},
		"Key":   {func(r *api.Record) { r.Key++ }, func(r *api.Record) { r.Key += 1 << 32 }},
		"Key2":  {func(r *api.Record) { r.Key2++ }, func(r *api.Record) { r.Key2 = 0 }},
		"Key3":  {func(r *api.Record) { r.Key3++ }, func(r *api.Record) { r.Key3 += 1 << 63 }},
		"N":     {func(r *api.Record) { r.N++ }, func(r *api.Record) { r.N = -r.N }},
		"M":     {func(r *api.Record) { r.M++ }, func(r *api.Record) { r.M += 1 << 32 }},
		"A":     {func(r *api.Record) { r.A = "pay" }, func(r *api.Record) { r.A = "paie" }, func(r *api.Record) { r.A += "\x00" }},
		"B":     {func(r *api.Record) { r.B = "" }, func(r *api.Record) { r.B = "kez" }, func(r *api.Record) { r.B += "\x00" }},
		"C":     {func(r *api.Record) { r.C = "ie" }, func(r *api.Record) { r.C = "Id" }, func(r *api.Record) { r.C += "\x00" }},
		"Vars": {
			func(r *api.Record) { r.Vars = nil },
			func(r *api.Record) { r.Vars = r.Vars[:2] },
			func(r *api.Record) { r.Vars = r.Vars[1:] },
			func(r *api.Record) { r.Vars = append(r.Vars, num("d", 0)) },
			func(r *api.Record) { r.Vars = append(r.Vars, api.Var{}) },
			func(r *api.Record) { r.Vars[0].Name = "aa" },
			func(r *api.Record) { r.Vars[2].Name = "d" },
			func(r *api.Record) { r.Vars[0].V.N = 1 },
			func(r *api.Record) { r.Vars[1].V.N = 0 },
			func(r *api.Record) { r.Vars[1].V.Kind = api.Int },
			func(r *api.Record) { r.Vars[2].V.S = "x" },
			func(r *api.Record) { r.Vars[2].V.N = 1 },
			func(r *api.Record) { slices.Reverse(r.Vars) },
		},
	}
}

// P12.2: records that differ in just one field aren't the same, either way round.
func TestSameOfOneField(t *testing.T) {
	if !rec.Same(full(), full()) {
		t.Error("a record isn't the same as itself")
	}
	for what, l := range changes() {
		for i, change := range l {
			a, b := full(), with(full(), change)
			if rec.Same(a, b) || rec.Same(b, a) {
				t.Errorf("%s, change %d: the same", what, i)
			}
			if again := with(full(), change); !rec.Same(b, again) {
				t.Errorf("%s, change %d: not the same as itself", what, i)
			}
		}
	}
}

// P12.2: fields whose values changed places aren't the same.
func TestSameOfFieldsAcross(t *testing.T) {
	a := full()
	for what, b := range map[string]api.Record{
		"Class, Kind": with(a, func(r *api.Record) { r.Class, r.Kind = r.Kind, r.Class }),
		"From, Key":   with(a, func(r *api.Record) { r.From, r.Key = r.Key, r.From }),
		"Key, Key2":   with(a, func(r *api.Record) { r.Key, r.Key2 = r.Key2, r.Key }),
		"Key2, Key3":  with(a, func(r *api.Record) { r.Key2, r.Key3 = r.Key3, r.Key2 }),
		"Time, N":     with(a, func(r *api.Record) { r.Time, r.N = r.N, r.Time }),
		"N, M":        with(a, func(r *api.Record) { r.N, r.M = r.M, r.N }),
		"A, B":        with(a, func(r *api.Record) { r.A, r.B = r.B, r.A }),
		"B, C":        with(a, func(r *api.Record) { r.B, r.C = r.C, r.B }),
	} {
		if rec.Same(a, b) || rec.Same(b, a) {
			t.Errorf("%s: the same", what)
		}
	}
}

// P12.2: a list without elements is the same as none, and spare room doesn't count;
// records that may not be are the same, if all their fields are.
func TestSameOfOddRecords(t *testing.T) {
	none, empty := command(2), command(2)
	empty.Vars = []api.Var{}
	if !rec.Same(none, empty) || !rec.Same(empty, none) {
		t.Error("an empty list isn't the same as none")
	}
	room := full()
	room.Vars = append(make([]api.Var, 0, 100), room.Vars...)
	if !rec.Same(room, full()) || !rec.Same(full(), room) {
		t.Error("spare room counts")
	}
	odd := func() api.Record {
		return api.Record{Class: -1, Kind: 99, Time: -1, A: times(9000, "a"), Vars: []api.Var{{}, {Name: "B"}}}
	}
	if !rec.Same(odd(), odd()) || !rec.Same(api.Record{}, api.Record{}) || rec.Same(odd(), api.Record{}) {
		t.Error("records that may not be")
	}
}
