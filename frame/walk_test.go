package frame_test

import (
	"iter"
	"slices"
	"strings"
	"testing"

	"wherry/api"
	"wherry/frame"
)

// one is a frame's kind and load.
type one struct {
	kind byte
	load string
}

// told are all frames that a range tells, in its order.
func told(s iter.Seq2[byte, string]) []one {
	var l []one
	for k, load := range s {
		l = append(l, one{k, load})
	}
	return l
}

// laid are the frames' bytes, one behind the other.
func laid(t *testing.T, l []one) string {
	t.Helper()
	var b strings.Builder
	for _, f := range l {
		b.WriteString(put(t, f.kind, f.load))
	}
	return b.String()
}

// mustWalk holds Walk, ranged over twice, and Good to these frames.
func mustWalk(t *testing.T, what, s string, want []one) {
	t.Helper()
	w := frame.Walk(s)
	if w == nil {
		t.Fatalf("%s: nil can't be ranged over", what)
	}
	for _, time := range []string{"first", "again"} {
		if got := told(w); !slices.Equal(got, want) {
			t.Errorf("%s, %s: %d frames, want %d", what, time, len(got), len(want))
		}
	}
	if got, n := frame.Good(s), len(laid(t, want)); got != n {
		t.Errorf("%s: Good: %d, want %d", what, got, n)
	}
}

// rows are lists of frames: none, one, several, short and long, twice the same.
func rows() [][]one {
	long := strings.Repeat("\xe2", api.MaxLoad)
	return [][]one{
		nil,
		{{1, ""}},
		{{0, "a"}},
		{{255, long}},
		{{7, "hello"}, {8, ""}},
		{{1, ""}, {1, ""}, {1, ""}},
		{{3, "x"}, {2, long}, {1, ""}, {0, long[:128]}, {9, "y"}},
	}
}

// P5.4: none, one and several frames, and nothing but them.
func TestWalk(t *testing.T) {
	for _, l := range rows() {
		mustWalk(t, "alone", laid(t, l), l)
	}
}

// P5.4: a piece of a frame behind them is none, however long it is.
func TestWalkPieceBehind(t *testing.T) {
	piece := put(t, 5, "a piece of a frame")
	for _, l := range rows() {
		s := laid(t, l)
		for n := range len(piece) {
			mustWalk(t, "a piece", s+piece[:n], l)
		}
	}
}

// P5.4: at the first one that Take refuses, for whatever reason, the walk ends:
// the good ones behind it aren't told.
func TestWalkBrokenBehind(t *testing.T) {
	right := put(t, 5, "broken")
	sum, kind, load := []byte(right), []byte(right), []byte(right)
	sum[3] ^= 128
	kind[4] ^= 1
	load[8] ^= 16
	behind := put(t, 6, "behind")
	for what, broken := range map[string]string{
		"another sum": string(sum), "another kind": string(kind), "another load": string(load),
		"no frame at all": "\x00\x00\x00\x00\x00\x00", "a byte too much": "\x00",
		"a length in another form": summed("\x01\x80\x00"),
		"a length above MaxLoad":   summed("\x01\x81\x80\x04" + strings.Repeat("x", api.MaxLoad+1)),
		"a piece":                  put(t, 5, strings.Repeat("x", 1000))[:500],
	} {
		if _, _, _, err := frame.Take(broken + behind); err == api.OK {
			t.Fatalf("%s: it is taken", what)
		}
		for _, l := range rows() {
			mustWalk(t, what, laid(t, l)+broken, l)
			mustWalk(t, what+", more behind", laid(t, l)+broken+behind, l)
		}
	}
}

// P5.4: what a load holds isn't walked over, though it be frames.
func TestWalkFramesInLoads(t *testing.T) {
	in := laid(t, []one{{1, "a"}, {2, ""}})
	l := []one{{3, in}, {4, in + in}}
	mustWalk(t, "frames in loads", laid(t, l), l)
}

// P5.4: a Walk may be left at each of its frames, and ranged over again.
func TestWalkLeft(t *testing.T) {
	l := rows()[len(rows())-1]
	w := frame.Walk(laid(t, l))
	for at := range l {
		var got []one
		for k, load := range w {
			got = append(got, one{k, load})
			if len(got) == at+1 {
				break
			}
		}
		if !slices.Equal(got, l[:at+1]) {
			t.Errorf("left at %d: %d frames", at, len(got))
		}
		calls := 0
		w(func(byte, string) bool {
			calls++
			return calls <= at
		})
		if calls != at+1 {
			t.Errorf("left at %d: asked %d times", at, calls)
		}
	}
	if got := told(w); !slices.Equal(got, l) {
		t.Errorf("behind all that: %d frames", len(got))
	}
}

// P5.4: a Walk may be ranged over while it is ranged over.
func TestWalkWithin(t *testing.T) {
	l := []one{{1, "a"}, {2, "b"}, {3, ""}}
	w := frame.Walk(laid(t, l))
	var got []one
	for k, load := range w {
		got = append(got, one{k, load})
		if inner := told(w); !slices.Equal(inner, l) {
			t.Errorf("within: %v", inner)
		}
	}
	if !slices.Equal(got, l) {
		t.Errorf("around: %v", got)
	}
}

// P5.4: very many frames.
func TestWalkMany(t *testing.T) {
	const many = api.MaxFile / 6
	s := strings.Repeat(put(t, 1, ""), many)
	if n := frame.Good(s + "\x00"); n != len(s) {
		t.Errorf("Good: %d, want %d", n, len(s))
	}
	if n := len(told(frame.Walk(s + "\x00"))); n != many {
		t.Errorf("Walk: %d, want %d", n, many)
	}
}
