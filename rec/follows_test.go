package rec_test

import (
	"fmt"
	"math"
	"math/rand"
	"strings"
	"testing"

	"wherry/api"
	"wherry/rec"
)

// pick is one of these.
func pick[T any](r *rand.Rand, l ...T) T { return l[r.Intn(len(l))] }

// random is a record most of which may be, whatever g says.
func random(g *rand.Rand) api.Record {
	u := func() uint64 { return pick(g, 0, 1, 127, 128, 1<<40+3, math.MaxUint64, g.Uint64()>>g.Intn(64)) }
	n := func() int64 { return pick(g, 0, 1, -1, math.MinInt64, math.MaxInt64, int64(u())) }
	s := func(l ...int) string { return times(pick(g, l...), pick(g, "a", "\x00", "\xff", "\x80")) }
	r := api.Record{Class: 1 + g.Intn(3), Kind: 1 + g.Intn(16), Time: g.Int63n(1<<40 + 1), Key: u(), Key2: u(), Key3: u(), N: n(), M: n(), A: s(0, 1, 4, 32), B: s(0, 1, 5, 1024), C: s(0, 1, 6, 32)}
	if r.Class != api.Command {
		r.From = 1 + u()>>1
	}
	for i := range pick(g, 0, 0, 1, 2, 3, 16) {
		name := fmt.Sprintf("v%c%s", 'a'+i, times(g.Intn(30), "n"))
		r.Vars = append(r.Vars, pick(g, num(name, n()), truth(name, int64(g.Intn(2))), text(name, s(0, 1, 200, 1024))))
	}
	return r
}

// disturb makes of a record most often one that may not be.
func disturb(g *rand.Rand, r *api.Record) {
	switch g.Intn(9) {
	case 0:
		r.Class = pick(g, -1, 0, 1, 2, 3, 4, 257)
	case 1:
		r.Kind = pick(g, -1, 0, 1, 16, 17, 24, 25, 257)
	case 2:
		r.From = pick(g, 0, 1, uint64(math.MaxUint64))
	case 3:
		r.Time = pick[int64](g, -1, 0, 1<<40, 1<<40+1, math.MinInt64, math.MaxInt64)
	case 4:
		r.A = times(pick(g, 32, 33, 1025, 4000, 8193), "a")
	case 5:
		r.B = times(pick(g, 1024, 1025, 4000, 8193), "b")
	case 6:
		r.C = times(pick(g, 32, 33, 1025), "c")
	case 7:
		r.Vars = append(r.Vars, pick(g, num("a", 1), num("z", 1), truth("z", 2), text("z", times(1025, "x")), api.Var{}))
	case 8:
		r.Class, r.Kind = 1+g.Intn(2), 1
	}
}

// P12.1 to P12.3: records that may be and that may not, whatever they hold, are
// told apart by the words; what is written of them is taken as it was.
func TestRandomRecords(t *testing.T) {
	g := rand.New(rand.NewSource(12))
	mays := 0
	for range 20000 {
		r := random(g)
		for range g.Intn(3) {
			disturb(g, &r)
		}
		may := mayBe(r)
		mustBeJust(t, tell(r), r, may)
		if may {
			mays++
			s, _ := rec.Bytes(r)
			mustTake(t, tell(r), s, r)
			mustNotTake(t, "a piece of "+tell(r), s[:g.Intn(len(s))])
			mustNotTake(t, tell(r)+" and more", s+times(1+g.Intn(20), pick(g, "\x00", "\xff", "a")))
		}
		if t.Failed() {
			return
		}
	}
	if mays < 5000 || mays > 19000 {
		t.Errorf("%d of 20000 may be", mays)
	}
}

// P12.2: of bytes near a record's, just those are taken that are one's, and those
// are what is written of it.
func TestRandomBytes(t *testing.T) {
	g := rand.New(rand.NewSource(13))
	takes := 0
	for range 60000 {
		r := random(g)
		if !mayBe(r) {
			continue
		}
		s := spoilt(g, written(r))
		want, ok := taken(s)
		if ok {
			takes++
			mustTake(t, fmt.Sprintf("%.200x", s), s, want)
			if b, err := rec.Bytes(want); err != api.OK || b != s {
				t.Errorf("%.200x is taken, %.200x written", s, b)
			}
		} else {
			mustNotTake(t, fmt.Sprintf("%.200x", s), s)
		}
		if t.Failed() {
			return
		}
	}
	if takes < 1000 {
		t.Errorf("only %d are taken", takes)
	}
}

// spoilt is s with a byte changed, put in, left out, or a number's byte stretched.
func spoilt(g *rand.Rand, s string) string {
	at := g.Intn(min(len(s), pick(g, 4, 16, 5000)))
	switch g.Intn(4) {
	case 0:
		return s[:at] + string([]byte{s[at] ^ 1<<g.Intn(8)}) + s[at+1:]
	case 1:
		return s[:at] + string([]byte{byte(g.Intn(256))}) + s[at:]
	case 2:
		return s[:at] + s[at+1:]
	}
	return s[:at] + string([]byte{s[at] | 128, 0}) + s[at+1:]
}

// P12.3: no two records that aren't the same have the same bytes.
func TestNoTwoHaveTheSameBytes(t *testing.T) {
	of := map[string]api.Record{}
	l := good()
	for _, set := range changes() {
		for _, change := range set {
			if r := with(full(), change); mayBe(r) {
				l = append(l, r)
			}
		}
	}
	for _, s := range []string{"a", "b", "ab", "\x00", "\x01a"} { // texts that might run into one another
		for _, rest := range []string{"", "a", "b", "\x00"} {
			l = append(l, api.Record{Class: 1, Kind: 2, A: s, B: rest}, api.Record{Class: 1, Kind: 2, B: s, C: rest}, api.Record{Class: 1, Kind: 2, A: rest, B: s})
		}
	}
	for _, r := range l {
		s, err := rec.Bytes(r)
		if err != api.OK {
			t.Fatalf("%s: %d", tell(r), err)
		}
		if other, has := of[s]; has && !rec.Same(r, other) {
			t.Errorf("%x: %s and %s", s, tell(r), tell(other))
		}
		of[s] = r
	}
	for s := range of {
		for other := range of {
			if s != other && strings.HasPrefix(other, s) {
				t.Errorf("%x is a beginning of %x", s, other)
			}
		}
	}
}
