package frame_test

import (
	"hash/crc32"
	"slices"
	"strings"
	"testing"

	"wherry/api"
	"wherry/frame"
)

// loads are of all lengths at which the length's own bytes become more.
func loads() []string {
	long := strings.Repeat("\x00\x80\xffl", api.MaxLoad/4)
	l := []string{"", "\x00", "\xff", "ab"}
	for _, n := range []int{6, 127, 128, 129, 16383, 16384, api.MaxLoad - 1, api.MaxLoad} {
		l = append(l, long[:n])
	}
	return l
}

// P5.5: what was put is taken, whatever follows.
func TestPutIsTaken(t *testing.T) {
	for _, load := range loads() {
		for _, kind := range []byte{0, 1, 127, 128, 255} {
			s := put(t, kind, load)
			for _, behind := range []string{"", "\x00", "\xff", "\x80\x80\x80\x80\x80\x80\x80", s} {
				mustTake(t, "put", s+behind, kind, load, len(s))
			}
		}
	}
	for kind := range 256 {
		s := put(t, byte(kind), "k")
		mustTake(t, "each kind", s+"x", byte(kind), "k", len(s))
	}
}

// P5.5: no beginning of a frame is one.
func TestNoBeginningIsOne(t *testing.T) {
	for _, load := range loads() {
		s := put(t, 9, load)
		step := 1 + len(s)/2000
		for n := 0; n < len(s); n += step {
			mustRefuse(t, "a beginning", s[:n], api.ErrMore)
		}
		mustRefuse(t, "all but one", s[:len(s)-1], api.ErrMore)
	}
}

// turned is s with one bit turned.
func turned(s string, at, bit int) string {
	b := []byte(s)
	b[at] ^= 1 << bit
	return string(b)
}

// P5.5: one bit turned in the sum, in the kind, in the load.
func TestOneBitTurned(t *testing.T) {
	for _, load := range loads() {
		s := put(t, 9, load)
		loadAt := len(s) - len(load)
		places := []int{0, 1, 2, 3, 4}
		for at := loadAt; at < len(s); at += 1 + len(load)/20 {
			places = append(places, at)
		}
		if load != "" {
			places = append(places, len(s)-1)
		}
		for _, at := range places {
			for bit := range 8 {
				mustRefuse(t, "a bit turned", turned(s, at, bit), api.ErrForm)
				mustRefuse(t, "a bit turned, more behind", turned(s, at, bit)+"more", api.ErrForm)
			}
		}
	}
}

// plainTake is P5.3, word by word.
func plainTake(s string) (byte, string, int, api.Errno) {
	if len(s) < 6 {
		return 0, "", 0, api.ErrMore
	}
	length, at := uint64(0), 5
	for ; ; at++ {
		i := at - 5
		if at == len(s) {
			return 0, "", 0, api.ErrMore
		}
		if i == 9 && s[at] > 1 || i > 0 && s[at] == 0 {
			return 0, "", 0, api.ErrForm
		}
		length |= uint64(s[at]&127) << (7 * i)
		if s[at] < 128 {
			break
		}
	}
	at++
	if length > 65536 {
		return 0, "", 0, api.ErrLong
	}
	if length > uint64(len(s)-at) {
		return 0, "", 0, api.ErrMore
	}
	size := at + int(length)
	c := crc32.ChecksumIEEE([]byte(s[4:size]))
	for i := range 4 {
		if s[i] != byte(c>>(8*i)) {
			return 0, "", 0, api.ErrForm
		}
	}
	return s[4], s[at:size], size, api.OK
}

// plainWalk is P5.4, word by word: the frames, and how many bytes they have.
func plainWalk(s string) ([]one, int) {
	var l []one
	good := 0
	for good < len(s) {
		kind, load, size, err := plainTake(s[good:])
		if err != api.OK {
			break
		}
		l = append(l, one{kind, load})
		good += size
	}
	return l, good
}

// steps are numbers that look like chance and are the same each time.
func steps(seed uint64) func(n int) int {
	return func(n int) int {
		seed = seed*6364136223846793005 + 1442695040888963407
		return int(seed>>33) % n
	}
}

// some is a row of frames, good and not, and of stray bytes.
func some(t *testing.T, next func(n int) int) string {
	s := ""
	for range next(5) {
		load := strings.Repeat("load\x00\x80", 30)[:next(180)]
		switch next(8) {
		case 0:
			s += "\x00\x01\x7f\x80\x81\xff\xff\xff\xff\xff\xff\x02"[next(12):]
		case 1:
			s += summed("\x05" + "\x80\x80\x80\x80\x80\x80\x80\x80\x80\x01\x00"[next(11):] + load)
		default:
			s += put(t, byte(next(256)), load)
		}
	}
	return s
}

// P5.3 to P5.5: rows with bits turned and ends cut answer as the words say.
func TestAsTold(t *testing.T) {
	seen := map[api.Errno]int{}
	for seed := range uint64(20000) {
		next := steps(seed)
		s := some(t, next)
		if s != "" && next(2) == 0 {
			s = turned(s, next(len(s)), next(8))
		}
		if s != "" && next(3) == 0 {
			s = s[:next(len(s))]
		}
		k, l, n, err := frame.Take(s)
		wk, wl, wn, werr := plainTake(s)
		if k != wk || l != wl || n != wn || err != werr {
			t.Fatalf("%x: Take: %d %x %d %d, want %d %x %d %d", s, k, l, n, err, wk, wl, wn, werr)
		}
		seen[err]++
		frames, good := plainWalk(s)
		if got := told(frame.Walk(s)); !slices.Equal(got, frames) || frame.Good(s) != good {
			t.Fatalf("%x: Walk: %v, Good: %d; want %v, %d", s, got, frame.Good(s), frames, good)
		}
	}
	for _, err := range []api.Errno{api.OK, api.ErrMore, api.ErrForm, api.ErrLong} {
		if seen[err] < 20 {
			t.Errorf("error %d came %d times only", err, seen[err])
		}
	}
}
