package seglog_test

import (
	"slices"
	"strings"
	"testing"

	"wherry/api"
	"wherry/disk"
	"wherry/seglog"
	"wherry/wire"
)

// dead is a disk that is off, with files or without.
func dead(d *disk.Disk) *disk.Disk {
	d.Power(0)
	d.Append("another", "")
	return d
}

// P6.1: which prefixes and sizes there may be.
func TestOpenArguments(t *testing.T) {
	for _, prefix := range []string{"", "abcdefghi", "Log", "lo1", "lo-", "lo g", "log\x00", "`", "{", "é", "l\xffg", "logäö", "-", "log\n"} {
		mustNotOpen(t, "prefix "+prefix, disk.New(), prefix, 64, api.ErrArg)
	}
	for _, prefix := range []string{"a", "z", "azazazaz", "abcdefgh", "ex"} {
		d := disk.New()
		l, err := seglog.Open(d, prefix, 64)
		if l == nil || err != api.OK {
			t.Fatalf("prefix %s: %d", prefix, err)
		}
		put(t, l, 1, "x")
		mustHave(t, "prefix "+prefix, d, prefix+"-0000000001")
	}
	for _, size := range []int{63, 0, -1, -64, 1<<16 + 1, 1 << 40, -1 << 63, 1<<63 - 1} {
		mustNotOpen(t, "size", disk.New(), "log", size, api.ErrArg)
	}
	for _, size := range []int{64, 65, 1<<16 - 1, 1 << 16} {
		mustStand(t, "size", open(t, disk.New(), size), 1, 1, 1)
	}
}

// P6.1: a nil disk, one that is off, and which error comes first.
func TestOpenDisk(t *testing.T) {
	mustNotOpen(t, "nil", nil, "log", 64, api.ErrArg)
	mustNotOpen(t, "nil, all wrong", nil, "", 0, api.ErrArg)
	mustNotOpen(t, "off, without files", dead(disk.New()), "log", 64, api.ErrDead)
	d := disk.New()
	put(t, open(t, d, 64), 1, "a")
	mustNotOpen(t, "off", dead(d), "log", 64, api.ErrDead)
	mustNotOpen(t, "off, no prefix", d, "", 64, api.ErrArg)
	mustNotOpen(t, "off, no size", d, "log", 63, api.ErrArg)
	d.Crash([]int{99})
	lay(t, d, "log-0000000009", "")
	mustNotOpen(t, "wrong", d, "log", 64, api.ErrForm)
	mustNotOpen(t, "wrong and off", dead(d), "log", 64, api.ErrDead)
}

// P6.1: an empty disk has a log without segments, and nothing is written for it.
func TestOpenEmpty(t *testing.T) {
	d := disk.New()
	d.Power(0)
	l := open(t, d, 64)
	mustTell(t, "empty", l, 1)
	mustStand(t, "empty", l, 1, 1, 1)
	mustHave(t, "empty", d, "")
}

// What a segment is: files of other names, however like, are not the log's: they
// are neither read nor changed.
func TestOtherNames(t *testing.T) {
	others := []string{
		"log", "log-", "log-1", "log-000000001", "log-00000000001", "log-0000000000", "log-0", "log-000000000000",
		"log-1099511627778", "log-9999999999999", "log-01099511627776", "log-18446744073709551617", "log-18446744073709551616",
		"log-000000000a", "log-00000000 1", "log-+000000001", "log--000000001", "log-0000000001 ", " log-0000000001", "log-0000000001.",
		"log-0x00000001", "log-0_00000001", "log_0000000001", "log0000000001", "-0000000001", "0000000001",
		"logs-0000000001", "lo-0000000001", "alog-0000000001", "Log-0000000001", "log-0000000001-", "log-log-0000000001", "log-000000000\xb2",
	}
	d := disk.New()
	for _, name := range others {
		lay(t, d, name, "no frame")
	}
	l := open(t, d, 64)
	mustTell(t, "empty", l, 1)
	put(t, l, 1, texts(2, 40)...)
	put(t, l, 3, "b")
	must(t, "Drop", l.Drop(3), api.OK)
	mustTell(t, "opened again", open(t, d, 64), 3, "b")
	for _, name := range others {
		mustBe(t, "others", d, name, "no frame")
	}
	want := append(slices.Clone(others), "log-0000000003")
	slices.Sort(want)
	if got := d.Names(); !slices.Equal(got, want) {
		t.Errorf("files: %q", got)
	}
}

// What a segment is: logs of several prefixes don't know of one another.
func TestOtherLogs(t *testing.T) {
	d := disk.New()
	prefixes := []string{"a", "aa", "log", "logs"}
	for i, prefix := range prefixes {
		l, err := seglog.Open(d, prefix, 64)
		must(t, prefix, err, api.OK)
		put(t, l, 1, texts(i+1, 50)...)
		put(t, l, uint64(i)+2, prefix)
	}
	for i, prefix := range prefixes {
		l, err := seglog.Open(d, prefix, 64)
		must(t, prefix, err, api.OK)
		mustTell(t, prefix, l, 1, append(texts(i+1, 50), prefix)...)
	}
}

// P6.1: the first segment may begin anywhere, with records and without: the log
// begins where its name says.
func TestOpenBegins(t *testing.T) {
	for name, pos := range map[string]uint64{
		"log-0000000001": 1, "log-0000000007": 7, "log-9999999999": 9999999999, "log-10000000000": 10000000000, "log-1099511627776": 1 << 40,
	} {
		d := disk.New()
		lay(t, d, name, "")
		l := open(t, d, 64)
		mustStand(t, name, l, pos, pos, pos)
		put(t, l, pos, "a")
		l = open(t, d, 64)
		mustStand(t, name, l, pos, pos+1, pos+1)
		mustTell(t, name, l, pos, "a")
	}
	d := disk.New()
	lay(t, d, "log-1099511627777", "")
	l := open(t, d, 64)
	mustStand(t, "behind all", l, 1<<40+1, 1<<40+1, 1<<40+1)
	mustNotPut(t, "behind all", l, api.ErrFull, "a")
}

// P6.1: the last segment may be without records, if it is named by the one
// behind all, and is gone on with.
func TestOpenLastEmpty(t *testing.T) {
	for _, torn := range []string{"", "t", batch(3, "c")[:9]} {
		d := disk.New()
		lay(t, d, "log-0000000001", batch(1, "a", "b"))
		lay(t, d, "log-0000000003", torn)
		l := open(t, d, 64)
		mustTell(t, "opened", l, 1, "a", "b")
		mustStand(t, "opened", l, 1, 3, 3)
		mustBe(t, "opened", d, "log-0000000003", "")
		put(t, l, 3, "c")
		mustBe(t, "appended", d, "log-0000000003", batch(3, "c"))
		mustTell(t, "opened again", open(t, d, 64), 1, "a", "b", "c")
	}
}

// P6.1: segments are read by rising positions, however short those ahead are.
func TestOpenShortSegments(t *testing.T) {
	d := disk.New()
	lay(t, d, "log-0000000004", batch(4, "d"))
	lay(t, d, "log-0000000003", batch(3, "c"))
	lay(t, d, "log-0000000001", batch(1, "a")+batch(2, "b"))
	l := open(t, d, 1<<16)
	mustTell(t, "opened", l, 1, "a", "b", "c", "d")
	put(t, l, 5, "e")
	mustBe(t, "appended", d, "log-0000000004", batch(4, "d")+batch(5, "e"))
}

// wrongFrames are bytes in which, at position 3, something stands that is no
// batch's frame there.
func wrongFrames() map[string]string {
	load := wire.Uint(3) + wire.List([]string{"c"})
	return map[string]string{
		"kind 0":               framed(0, load),
		"kind 2":               framed(2, load),
		"kind 255":             framed(255, load),
		"no load":              framed(1, ""),
		"no list":              framed(1, wire.Uint(3)),
		"no records":           framed(1, wire.Uint(3)+wire.List(nil)),
		"a byte more":          framed(1, load+"\x00"),
		"a byte less":          framed(1, load[:len(load)-1]),
		"a position's form":    framed(1, "\x83\x00"+wire.List([]string{"c"})),
		"257 records":          batch(3, texts(257, 1)...),
		"a record of 4097":     batch(3, strings.Repeat("x", 4097)),
		"so behind others":     batch(3, "c", "d", strings.Repeat("x", 4097)),
		"a position less":      batch(2, "c"),
		"a position more":      batch(4, "c"),
		"position 0":           batch(0, "c"),
		"position 1":           batch(1, "c"),
		"position MaxPos":      batch(1<<40, "c"),
		"a position above it":  batch(1<<40+1, "c"),
		"the greatest":         batch(1<<64-1, "c"),
		"twice the same":       batch(3, "c") + batch(3, "c"),
		"one left out":         batch(3, "c") + batch(5, "c"),
		"wrong behind a batch": batch(3, "c", "d") + framed(2, wire.Uint(5)+wire.List([]string{"e"})),
		"wrong and torn":       framed(2, load) + "torn",
	}
}

// mustRefuse holds Open to ErrForm, and the disk to what it was, in all: what is
// safe, and the power that is left.
func mustRefuse(t *testing.T, what string, d *disk.Disk) {
	t.Helper()
	was, c := d.Clone(), d.Clone()
	mustNotOpen(t, what, c, "log", 64, api.ErrForm)
	for _, crash := range []bool{false, true} {
		if crash {
			was.Crash(nil)
			c.Crash(nil)
		}
		if !slices.Equal(was.Names(), c.Names()) {
			t.Errorf("%s: files %q", what, c.Names())
		}
		for _, name := range was.Names() {
			s, _ := was.Read(name)
			mustBe(t, what, c, name, s)
		}
	}
	c = d.Clone()
	c.Power(0)
	mustNotOpen(t, what, c, "log", 64, api.ErrForm)
	if c.Off() {
		t.Errorf("%s: an act was tried", what)
	}
}

// P6.1: a frame that isn't of a batch, or of another position, is refused, in
// each segment, and nothing is written then, not even where the last one is torn.
func TestWrongFrames(t *testing.T) {
	for what, bytes := range wrongFrames() {
		d := disk.New()
		lay(t, d, "log-0000000001", batch(1, "a", "b")+bytes)
		mustRefuse(t, what+", in the only one", d)
		lay(t, d, "log-0000000004", batch(4, "d")+"torn")
		mustRefuse(t, what+", ahead of another", d)
		d = disk.New()
		lay(t, d, "log-0000000001", batch(1, "a", "b"))
		lay(t, d, "log-0000000003", bytes)
		mustRefuse(t, what+", as the last one's first", d)
		lay(t, d, "log-0000000004", batch(4, "d"))
		mustRefuse(t, what+", in the middle", d)
		d = disk.New()
		lay(t, d, "log-0000000003", bytes)
		mustRefuse(t, what+", as the first of all", d)
	}
}

// P6.1: the greatest batch that may be is read.
func TestGreatestFrames(t *testing.T) {
	d := disk.New()
	lay(t, d, "log-1099511627521", batch(1<<40-255, texts(256, 200)...))
	l := open(t, d, 64)
	mustTell(t, "256 up to MaxPos", l, 1<<40-255, texts(256, 200)...)
	d = disk.New()
	lay(t, d, "log-1099511627522", batch(1<<40-254, texts(256, 200)...))
	mustRefuse(t, "one above MaxPos", d)
	d = disk.New()
	lay(t, d, "log-1099511627776", batch(1<<40, "a", "b"))
	mustRefuse(t, "the second above MaxPos", d)
	d = disk.New()
	lay(t, d, "log-1099511627776", batch(1<<40, "a")+batch(1<<40+1, "b"))
	mustRefuse(t, "the next above MaxPos", d)
	d = disk.New()
	lay(t, d, "log-1099511627777", batch(1<<40+1, "a"))
	mustRefuse(t, "a segment above MaxPos", d)
	d = disk.New()
	lay(t, d, "log-1099511627776", batch(1<<40, "a"))
	lay(t, d, "log-1099511627777", "")
	mustTell(t, "an empty one behind all", open(t, d, 64), 1<<40, "a")
	d = disk.New()
	lay(t, d, "log-0000000001", batch(1, texts(15, 4096)...)+batch(16, strings.Repeat("x", 4096)))
	mustTell(t, "records of 4096", open(t, d, 64), 1, append(texts(15, 4096), strings.Repeat("x", 4096))...)
}

// P6.1: what is wrong about how segments follow on one another.
func TestWrongSegments(t *testing.T) {
	type files map[string]string
	ab, cd := batch(1, "a", "b"), batch(3, "c", "d")
	for what, laid := range map[string]files{
		"bytes behind the frames":        {"log-0000000001": ab + "t", "log-0000000003": cd},
		"a torn frame":                   {"log-0000000001": ab + batch(3, "c")[:9], "log-0000000003": cd},
		"a frame of another sum":         {"log-0000000001": ab + "x" + cd[1:], "log-0000000003": ""},
		"one without records":            {"log-0000000001": "", "log-0000000003": cd},
		"so, and the next as it":         {"log-0000000001": "", "log-0000000002": ""},
		"so in the middle":               {"log-0000000001": ab, "log-0000000003": "", "log-0000000004": ""},
		"one of torn bytes alone":        {"log-0000000001": "torn", "log-0000000002": ""},
		"a name that is less":            {"log-0000000001": ab, "log-0000000002": cd},
		"a name that is more":            {"log-0000000001": ab, "log-0000000004": cd},
		"a name of the second":           {"log-0000000004": cd},
		"a name ahead of all":            {"log-0000000002": cd},
		"records and a gap":              {"log-0000000001": ab, "log-0000000004": batch(4, "d")},
		"records twice":                  {"log-0000000001": ab, "log-0000000002": batch(2, "b")},
		"an empty one behind a gap":      {"log-0000000001": ab, "log-0000000004": ""},
		"an empty one within":            {"log-0000000001": ab, "log-0000000002": ""},
		"an empty one far behind":        {"log-0000000001": ab, "log-1099511627777": ""},
		"a torn one behind a gap":        {"log-0000000001": ab, "log-0000000004": "torn"},
		"one left out":                   {"log-0000000001": ab, "log-0000000005": batch(5, "e")},
		"two empty ones":                 {"log-0000000001": ab, "log-0000000003": "", "log-0000000005": ""},
		"the last of other positions":    {"log-0000000001": ab, "log-0000000003": ab},
		"more digits, names not in turn": {"log-9999999999": batch(9999999999, "a"), "log-10000000001": batch(10000000001, "b")},
	} {
		d := disk.New()
		for name, bytes := range laid {
			lay(t, d, name, bytes)
		}
		mustRefuse(t, what, d)
	}
}

// P6.1: what is behind the last one's frames is cut off, whatever it is, and
// what is there then is safe.
func TestTorn(t *testing.T) {
	next := batch(4, "d", "e")
	tails := []string{"t", "torn", strings.Repeat("\x00", 100), strings.Repeat("\xff", 100), "x" + next[1:], "t" + next, next[:4] + "\x01\x80"}
	for n := 1; n < len(next); n++ {
		tails = append(tails, next[:n])
	}
	for _, tail := range tails {
		good := batch(1, "a", "b") + batch(3, "c")
		d := disk.New()
		lay(t, d, "log-0000000001", good+tail)
		l := open(t, d, 64)
		mustTell(t, "opened", l, 1, "a", "b", "c")
		mustStand(t, "opened", l, 1, 4, 4)
		mustBe(t, "opened", d, "log-0000000001", good)
		c := d.Clone()
		c.Crash(nil)
		mustBe(t, "crashed", c, "log-0000000001", good)
		put(t, l, 4, "d", "e")
		mustBe(t, "appended", d, "log-0000000001", good+next)
	}
	d := disk.New()
	lay(t, d, "log-0000000001", batch(1, texts(2, 40)...)+"torn")
	l := open(t, d, 64)
	put(t, l, 3, "c")
	mustHave(t, "a full one that was torn", d, "log-0000000001 log-0000000003")
}

// P6.1, P6.2: how much the last one has is reckoned without what was cut off.
func TestTornSize(t *testing.T) {
	d := disk.New()
	lay(t, d, "log-0000000001", batch(1, "a")+strings.Repeat("t", 1000))
	l := open(t, d, 64)
	put(t, l, 2, "b")
	mustHave(t, "appended", d, "log-0000000001")
	mustTell(t, "appended", l, 1, "a", "b")
}

// P6.1: the acts of Open: a Cut, if there is anything to be cut off, and a Sync;
// without segments none.
func TestOpenActs(t *testing.T) {
	for _, x := range []struct {
		bytes string
		acts  int
	}{{"", 1}, {batch(1, "a"), 1}, {"t", 2}, {batch(1, "a") + "t", 2}} {
		for power := range x.acts {
			d := disk.New()
			lay(t, d, "log-0000000001", x.bytes)
			d.Power(power)
			mustNotOpen(t, "too little", d, "log", 64, api.ErrDead)
			if !d.Off() {
				t.Error("it isn't off")
			}
			d.Crash([]int{1000})
			left := x.bytes
			if power == 1 {
				left = strings.TrimSuffix(left, "t")
			}
			mustBe(t, "too little", d, "log-0000000001", left)
		}
		d := disk.New()
		lay(t, d, "log-0000000001", x.bytes)
		d.Power(x.acts)
		l := open(t, d, 64)
		mustNotPut(t, "one act more", l, api.ErrDead, "z")
	}
}
