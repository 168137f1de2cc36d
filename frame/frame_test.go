package frame_test

import (
	"hash/crc32"
	"strings"
	"testing"

	"wherry/api"
	"wherry/frame"
	"wherry/wire"
)

// byTheWords is P5.1, word by word.
func byTheWords(s string) uint32 {
	c := uint32(0xffffffff)
	for i := range len(s) {
		c ^= uint32(s[i])
		for range 8 {
			low := c & 1
			c >>= 1
			if low == 1 {
				c ^= 0xedb88320
			}
		}
	}
	return c ^ 0xffffffff
}

// summed is a body with its right sum ahead of it, whatever body it is.
func summed(body string) string {
	c := crc32.ChecksumIEEE([]byte(body))
	return string([]byte{byte(c), byte(c >> 8), byte(c >> 16), byte(c >> 24)}) + body
}

// put is a frame that may be.
func put(t *testing.T, kind byte, load string) string {
	t.Helper()
	s, err := frame.Put(kind, load)
	if err != api.OK {
		t.Fatalf("Put(%d, %d bytes): %d", kind, len(load), err)
	}
	return s
}

// mustTake holds Take to a frame.
func mustTake(t *testing.T, what, s string, kind byte, load string, size int) {
	t.Helper()
	k, l, n, err := frame.Take(s)
	if k != kind || l != load || n != size || err != api.OK {
		t.Errorf("%s: kind %d, %d bytes of load, size %d, error %d; want %d, %d, %d", what, k, len(l), n, err, kind, len(load), size)
	}
}

// mustRefuse holds Take to an error, beside which there is nothing.
func mustRefuse(t *testing.T, what, s string, want api.Errno) {
	t.Helper()
	k, l, n, err := frame.Take(s)
	if k != 0 || l != "" || n != 0 || err != want {
		t.Errorf("%s: kind %d, %d bytes of load, size %d, error %d; want nothing and %d", what, k, len(l), n, err, want)
	}
}

// P5.1 to P5.3: the chapter's examples.
func TestExamples(t *testing.T) {
	if c := frame.Sum("123456789"); c != 0xcbf43926 {
		t.Errorf("Sum: %x", c)
	}
	if s := put(t, 1, ""); len(s) != 6 {
		t.Errorf("Put(1, nothing): %x", s)
	}
	mustRefuse(t, "nothing", "", api.ErrMore)
}

// P5.1: sums that are known.
func TestSumKnown(t *testing.T) {
	for _, x := range []struct {
		s    string
		want uint32
	}{
		{"", 0}, {"\x00", 0xd202ef8d}, {"a", 0xe8b7be43}, {"\xff", 0xff000000}, {"\x01\x00", 0x58c223be},
		{"\xff\xff\xff\xff", 0xffffffff},
		{"The quick brown fox jumps over the lazy dog", 0x414fa339},
		{strings.Repeat("\x00", 1<<16), 0xd7978eeb},
	} {
		if c := frame.Sum(x.s); c != x.want {
			t.Errorf("%d bytes: %x, want %x", len(x.s), c, x.want)
		}
	}
}

// P5.1 and R4: each byte counts as the words say, alone and behind others, and
// a sum is the same each time.
func TestSumByTheWords(t *testing.T) {
	all := ""
	for b := range 256 {
		one := string([]byte{byte(b)})
		all += one
		for _, s := range []string{one, "x" + one, one + one, one + "\x00", all} {
			want := byTheWords(s)
			if want != crc32.ChecksumIEEE([]byte(s)) {
				t.Fatalf("%x: the words and the library aren't at one", s)
			}
			for range 2 {
				if c := frame.Sum(s); c != want {
					t.Errorf("%x: %x, want %x", s, c, want)
				}
			}
		}
	}
	many := strings.Repeat(all, 1<<12)
	if c := frame.Sum(many); c != byTheWords(many) {
		t.Errorf("%d bytes: %x, want %x", len(many), c, byTheWords(many))
	}
}

// P5.2: frames, byte by byte.
func TestPutBytes(t *testing.T) {
	for _, x := range []struct {
		kind       byte
		load, want string
	}{
		{0, "", "\xff\x12\xd9\x41\x00\x00"},
		{1, "", "\xbe\x23\xc2\x58\x01\x00"},
		{255, "", "\x8d\xef\xfd\xd2\xff\x00"},
		{7, "hello", "\xd8\x21\x34\xf8\x07\x05hello"},
	} {
		if got := put(t, x.kind, x.load); got != x.want {
			t.Errorf("Put(%d, %q): %x, want %x", x.kind, x.load, got, x.want)
		}
	}
}

// P5.2: every kind, loads up to MaxLoad, and one byte more.
func TestPut(t *testing.T) {
	for kind := range 256 {
		for _, load := range []string{"", "\x00", "\xff", "ab"} {
			want := summed(string([]byte{byte(kind)}) + wire.Text(load))
			if got := put(t, byte(kind), load); got != want {
				t.Errorf("Put(%d, %q): %x, want %x", kind, load, got, want)
			}
		}
	}
	long := strings.Repeat("\x80l", api.MaxLoad)
	for _, x := range []struct{ n, size int }{{1, 7}, {127, 133}, {128, 135}, {16383, 16390}, {16384, 16392}, {api.MaxLoad - 1, api.MaxLoad + 7}, {api.MaxLoad, api.MaxLoad + 8}} {
		for _, kind := range []byte{0, 255} {
			got := put(t, kind, long[:x.n])
			if got != summed(string([]byte{kind})+wire.Text(long[:x.n])) || len(got) != x.size {
				t.Errorf("a load of %d bytes: a frame of %d, want %d", x.n, len(got), x.size)
			}
		}
	}
	for _, n := range []int{api.MaxLoad + 1, api.MaxLoad + 2, 2 * api.MaxLoad} {
		for _, kind := range []byte{0, 255} {
			if s, err := frame.Put(kind, long[:n]); s != "" || err != api.ErrLong {
				t.Errorf("a load of %d bytes: %d bytes, error %d", n, len(s), err)
			}
		}
	}
}

// P5.3: what begins s is taken, whatever is behind it.
func TestTake(t *testing.T) {
	mustTake(t, "six bytes", "\xff\x12\xd9\x41\x00\x00", 0, "", 6)
	mustTake(t, "six bytes of kind 255", "\x8d\xef\xfd\xd2\xff\x00", 255, "", 6)
	mustTake(t, "a load", "\xd8\x21\x34\xf8\x07\x05hello", 7, "hello", 11)
	mustTake(t, "bytes behind it", "\xd8\x21\x34\xf8\x07\x05hellomore", 7, "hello", 11)
	mustTake(t, "a frame behind it", "\xd8\x21\x34\xf8\x07\x05hello\xff\x12\xd9\x41\x00\x00", 7, "hello", 11)
	long := strings.Repeat("x", api.MaxLoad)
	mustTake(t, "the longest", summed("\x01\x80\x80\x04"+long), 1, long, api.MaxLoad+8)
	mustTake(t, "the longest, bytes behind it", summed("\x01\x80\x80\x04"+long)+"xx", 1, long, api.MaxLoad+8)
}

// P5.3: fewer than six bytes, whatever they are.
func TestTakeShort(t *testing.T) {
	for _, some := range []string{"\x00", "\x80", "\xff", "\x01"} {
		for n := range 6 {
			mustRefuse(t, "short", strings.Repeat(some, n), api.ErrMore)
		}
	}
	mustRefuse(t, "a frame but for its length", "\xff\x12\xd9\x41\x00", api.ErrMore)
	mustRefuse(t, "six bytes that are no frame", "\x00\x00\x00\x00\x00\x00", api.ErrForm)
}

// P5.3: each error, and which comes first where several would do. The sum is
// right where another error is asked for in spite of it, and the other way
// round.
func TestTakeWrong(t *testing.T) {
	full := strings.Repeat("x", 1<<17)
	nine := strings.Repeat("\x80", 9)
	for _, x := range []struct {
		what, body string
		want       api.Errno
	}{
		{"a length that is cut", "\x01\x80", api.ErrMore},
		{"a length above all that is cut", "\x01\xff\xff\xff\xff\xff\xff\xff\xff\xff", api.ErrMore},
		{"a length with a 0 too much", "\x01\x80\x00", api.ErrForm},
		{"a length with a 0 too much, and its bytes", "\x01\x81\x00x", api.ErrForm},
		{"a long length with a 0 too much", "\x01\x80\x80\x80\x80\x80\x00" + full, api.ErrForm},
		{"a length of eleven bytes", "\x01" + nine + "\x80\x01" + full, api.ErrForm},
		{"a length with a tenth byte above 1", "\x01" + nine + "\x02" + full, api.ErrForm},
		{"MaxLoad and 1", "\x01\x81\x80\x04" + full, api.ErrLong},
		{"MaxLoad and 1, just so many", "\x01\x81\x80\x04" + full[:api.MaxLoad+1], api.ErrLong},
		{"MaxLoad and 1, fewer bytes", "\x01\x81\x80\x04x", api.ErrLong},
		{"MaxLoad and 1, no bytes", "\x01\x81\x80\x04", api.ErrLong},
		{"2^63", "\x01" + nine + "\x01" + full, api.ErrLong},
		{"2^64 - 1", "\x01\xff\xff\xff\xff\xff\xff\xff\xff\xff\x01", api.ErrLong},
		{"2^32", "\x01\x80\x80\x80\x80\x10", api.ErrLong},
		{"MaxLoad, one byte missing", "\x01\x80\x80\x04" + full[:api.MaxLoad-1], api.ErrMore},
		{"MaxLoad, no bytes", "\x01\x80\x80\x04", api.ErrMore},
		{"one byte missing", "\x01\x03ab", api.ErrMore},
		{"all bytes missing", "\x01\x01", api.ErrMore},
	} {
		mustRefuse(t, x.what, summed(x.body), x.want)
		mustRefuse(t, x.what+", another sum", "\x00\x00\x00\x00"+x.body, x.want)
	}
	for _, body := range []string{"\x01\x00", "\x01\x01a", "\x01\x80\x80\x04" + full[:api.MaxLoad]} {
		mustRefuse(t, "another sum", "\x00\x00\x00\x00"+body, api.ErrForm)
		mustRefuse(t, "another sum, bytes behind", "\x00\x00\x00\x00"+body+"more", api.ErrForm)
		mustRefuse(t, "the sum of another kind", summed(body)[:4]+"\x02"+body[1:], api.ErrForm)
	}
	right := summed("\x01\x01a")
	mustRefuse(t, "the highest byte first", string([]byte{right[3], right[2], right[1], right[0]})+right[4:], api.ErrForm)
	mustRefuse(t, "the sum of what is behind it, too", summed("\x01\x01amore"), api.ErrForm)
}
