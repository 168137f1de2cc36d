package seglog_test

import (
	"slices"
	"strings"
	"testing"

	"wherry/api"
	"wherry/disk"
	"wherry/frame"
	"wherry/seglog"
	"wherry/wire"
)

// one is a record and its position.
type one struct {
	pos    uint64
	record string
}

// must holds what a call answered against what it should.
func must(t *testing.T, what string, got, want api.Errno) {
	t.Helper()
	if got != want {
		t.Errorf("%s: %d, want %d", what, got, want)
	}
}

// open is the log named log on a disk.
func open(t *testing.T, d *disk.Disk, size int) *seglog.Log {
	t.Helper()
	l, err := seglog.Open(d, "log", size)
	if l == nil || err != api.OK {
		t.Fatalf("Open: %v %d", l, err)
	}
	return l
}

// mustNotOpen holds Open to an error, beside which there is no log.
func mustNotOpen(t *testing.T, what string, d *disk.Disk, prefix string, size int, want api.Errno) {
	t.Helper()
	if l, err := seglog.Open(d, prefix, size); l != nil || err != want {
		t.Errorf("%s: %v %d, want none and %d", what, l, err, want)
	}
}

// put appends a batch, which should be at a position.
func put(t *testing.T, l *seglog.Log, want uint64, records ...string) {
	t.Helper()
	if pos, err := l.Append(records); pos != want || err != api.OK {
		t.Errorf("Append at %d: %d %d", want, pos, err)
	}
}

// mustNotPut holds Append to an error, beside which the position is 0.
func mustNotPut(t *testing.T, what string, l *seglog.Log, want api.Errno, records ...string) {
	t.Helper()
	if pos, err := l.Append(records); pos != 0 || err != want {
		t.Errorf("%s: %d %d, want 0 and %d", what, pos, err, want)
	}
}

// mustStand holds what a log tells of itself against what it should.
func mustStand(t *testing.T, what string, l *seglog.Log, first, next, sure uint64) {
	t.Helper()
	if l.First() != first || l.Next() != next || l.Sure() != sure {
		t.Errorf("%s: First %d, Next %d, Sure %d, want %d, %d, %d", what, l.First(), l.Next(), l.Sure(), first, next, sure)
	}
}

// told are all records that From tells, in its order.
func told(l *seglog.Log, pos uint64) []one {
	var all []one
	for at, r := range l.From(pos) {
		all = append(all, one{at, r})
	}
	return all
}

// mustTell holds From and Read to these records, the first one at a position,
// and to nothing beside them.
func mustTell(t *testing.T, what string, l *seglog.Log, first uint64, records ...string) {
	t.Helper()
	var want []one
	for i, r := range records {
		want = append(want, one{first + uint64(i), r})
	}
	if got := told(l, 0); !slices.Equal(got, want) {
		t.Errorf("%s: From tells %d records, want other %d", what, len(got), len(want))
	}
	for _, x := range want {
		if s, err := l.Read(x.pos); s != x.record || err != api.OK {
			t.Errorf("%s: Read(%d): %.100q %d", what, x.pos, s, err)
		}
	}
	mustMiss(t, what, l, 0, first-1, first+uint64(len(records)), 1<<40+2, 1<<64-1)
	mustStand(t, what, l, first, first+uint64(len(records)), l.Sure())
}

// mustMiss holds Read to ErrNone, beside which there is nothing.
func mustMiss(t *testing.T, what string, l *seglog.Log, places ...uint64) {
	t.Helper()
	for _, pos := range places {
		if s, err := l.Read(pos); s != "" || err != api.ErrNone {
			t.Errorf("%s: Read(%d): %.100q %d", what, pos, s, err)
		}
	}
}

// mustHave holds the files' names against a text of them with blanks between.
func mustHave(t *testing.T, what string, d *disk.Disk, want string) {
	t.Helper()
	if got := d.Names(); !slices.Equal(got, strings.Fields(want)) {
		t.Errorf("%s: files %q, want %q", what, got, want)
	}
}

// mustBe holds a file's bytes against those that it should have.
func mustBe(t *testing.T, what string, d *disk.Disk, name, want string) {
	t.Helper()
	if s, err := d.Read(name); s != want || err != api.OK {
		t.Errorf("%s: %s: %d bytes (%d), want %d", what, name, len(s), err, len(want))
	}
}

// framed is a frame of a kind and a load.
func framed(kind byte, load string) string {
	s, err := frame.Put(kind, load)
	if err != api.OK {
		panic("a load that is too long")
	}
	return s
}

// batch is a batch's frame, as the chapter's words say it.
func batch(first uint64, records ...string) string {
	return framed(1, wire.Uint(first)+wire.List(records))
}

// lay appends bytes to a file.
func lay(t *testing.T, d *disk.Disk, name, s string) {
	t.Helper()
	must(t, "to lay "+name, d.Append(name, s), api.OK)
}

// texts are records of some bytes each, which differ.
func texts(many, long int) []string {
	var l []string
	for i := range many {
		s := strings.Repeat(string([]byte{'a' + byte(i%26)}), long)
		l = append(l, s)
	}
	return l
}

// P6.1 to P6.4: the chapter's examples.
func TestExamples(t *testing.T) {
	l := open(t, disk.New(), 64)
	mustStand(t, "empty", l, 1, 1, 1)
	put(t, l, 1, "a", "b")
	mustStand(t, "appended", l, 1, 3, 1)
	must(t, "Flush", l.Flush(), api.OK)
	mustStand(t, "flushed", l, 1, 3, 3)
	if s, err := l.Read(2); s != "b" || err != api.OK {
		t.Errorf("Read(2): %q %d", s, err)
	}
}

// The head of the promises, and R1: a nil log.
func TestNil(t *testing.T) {
	var l *seglog.Log
	mustNotPut(t, "a batch", l, api.ErrArg, "a")
	mustNotPut(t, "no batch", l, api.ErrArg)
	must(t, "Flush", l.Flush(), api.ErrArg)
	must(t, "Drop", l.Drop(1), api.ErrArg)
	if s, err := l.Read(1); s != "" || err != api.ErrArg {
		t.Errorf("Read: %q %d", s, err)
	}
	mustStand(t, "nil", l, 0, 0, 0)
	if got := told(l, 0); len(got) != 0 {
		t.Errorf("From: %v", got)
	}
}

// R1: a log that no call gave refuses, and panics nowhere.
func TestZero(t *testing.T) {
	var l seglog.Log
	mustNotPut(t, "a batch", &l, api.ErrArg, "a")
	must(t, "Flush", l.Flush(), api.OK)
	must(t, "Drop", l.Drop(1), api.OK)
	mustMiss(t, "zero", &l, 0, 1)
	if got := told(&l, 0); len(got) != 0 {
		t.Errorf("From: %v", got)
	}
}

// P6.2: what is no batch, and the greatest that is one.
func TestAppendBatch(t *testing.T) {
	d := disk.New()
	l := open(t, d, 64)
	long := strings.Repeat("x", 4096)
	mustNotPut(t, "nil", l, api.ErrArg)
	mustNotPut(t, "257", l, api.ErrArg, texts(257, 1)...)
	mustNotPut(t, "4097 bytes", l, api.ErrArg, long+"x")
	mustNotPut(t, "4097 bytes behind others", l, api.ErrArg, "a", long, long+"x")
	mustHave(t, "refused", d, "")
	mustTell(t, "refused", l, 1)
	if pos, err := l.Append([]string{}); pos != 0 || err != api.ErrArg {
		t.Errorf("empty: %d %d", pos, err)
	}
	many := texts(256, 3)
	put(t, l, 1, "")
	put(t, l, 2, many...)
	put(t, l, 258, long)
	put(t, l, 259, "", long, "")
	mustTell(t, "all", l, 1, slices.Concat([]string{""}, many, []string{long, "", long, ""})...)
}

// P6.2: its frame's load may have MaxLoad bytes, and one more is refused.
func TestAppendLoad(t *testing.T) {
	d := disk.New()
	l := open(t, d, 64)
	// 1 byte of the position, 1 of the count, 2 of each length.
	just := slices.Concat(texts(15, 4096), texts(1, 1<<16-2-15*4098-2))
	over := slices.Clone(just)
	over[15] += "x"
	mustNotPut(t, "a byte more", l, api.ErrArg, over...)
	mustNotPut(t, "far more", l, api.ErrArg, texts(256, 4096)...)
	mustHave(t, "refused", d, "")
	put(t, l, 1, just...)
	mustTell(t, "all", l, 1, just...)
	mustBe(t, "all", d, "log-0000000001", batch(1, just...))
	mustTell(t, "opened again", open(t, d, 64), 1, just...)
}

// P6.2: positions end at MaxPos; that is said ahead of a load that is too long,
// and behind what is no batch.
func TestAppendFull(t *testing.T) {
	d := disk.New()
	lay(t, d, "log-1099511627774", "")
	l := open(t, d, 64)
	mustStand(t, "opened", l, 1<<40-2, 1<<40-2, 1<<40-2)
	mustNotPut(t, "4, of which 3 may be", l, api.ErrFull, "a", "b", "c", "d")
	mustNotPut(t, "too long", l, api.ErrFull, texts(256, 4096)...)
	mustNotPut(t, "no batch", l, api.ErrArg, texts(257, 1)...)
	mustNotPut(t, "no record", l, api.ErrArg, "a", "b", "c", strings.Repeat("x", 4097))
	put(t, l, 1<<40-2, "a", "b")
	put(t, l, 1<<40, "c")
	mustNotPut(t, "one more", l, api.ErrFull, "d")
	mustNotPut(t, "none more", l, api.ErrArg)
	must(t, "Flush", l.Flush(), api.OK)
	mustStand(t, "full", l, 1<<40-2, 1<<40+1, 1<<40+1)
	mustHave(t, "full", d, "log-1099511627774")
	l = open(t, d, 64)
	mustNotPut(t, "opened again", l, api.ErrFull, "d")
	mustTell(t, "opened again", l, 1<<40-2, "a", "b", "c")
}

// P6.2, and what a segment is: its name, its bytes; a new one is begun when the
// last one has size bytes or more, however long the batch is.
func TestSegments(t *testing.T) {
	d := disk.New()
	l := open(t, d, 64)
	just := strings.Repeat("j", 64-len(batch(1, ""))) // a frame of just 64 bytes, the length being short
	less := just[1:]
	put(t, l, 1, less)
	mustBe(t, "63 bytes", d, "log-0000000001", batch(1, less))
	put(t, l, 2, "a", "b")
	mustHave(t, "63 bytes: no new one", d, "log-0000000001")
	put(t, l, 4, just)
	put(t, l, 5, texts(3, 4000)...)
	put(t, l, 8, "z")
	mustHave(t, "all", d, "log-0000000001 log-0000000004 log-0000000005 log-0000000008")
	mustBe(t, "first", d, "log-0000000001", batch(1, less)+batch(2, "a", "b"))
	mustBe(t, "just full", d, "log-0000000004", batch(4, just))
	if n := len(batch(4, just)); n != 64 {
		t.Fatalf("that has %d bytes", n)
	}
	mustBe(t, "long", d, "log-0000000005", batch(5, texts(3, 4000)...))
	mustBe(t, "last", d, "log-0000000008", batch(8, "z"))
	all := slices.Concat([]string{less, "a", "b", just}, texts(3, 4000), []string{"z"})
	mustTell(t, "all", l, 1, all...)
	mustTell(t, "opened again", open(t, d, 64), 1, all...)
}

// P6.2: the size is the log's own, as Open was told it: also of a last segment
// that was written with another.
func TestSegmentSize(t *testing.T) {
	for _, size := range []int{64, 65, 1000, 1<<16 - 1, 1 << 16} {
		d := disk.New()
		l := open(t, d, size)
		had := 0
		for pos := uint64(1); len(d.Names()) < 3; pos++ {
			full := had >= size
			files := len(d.Names())
			put(t, l, pos, strings.Repeat("r", 40))
			if begun := len(d.Names()) > files; begun != (full || pos == 1) {
				t.Fatalf("size %d: at %d, behind %d bytes, one is begun: %t", size, pos, had, begun)
			}
			if full {
				had = 0
			}
			had += len(batch(pos, strings.Repeat("r", 40)))
		}
	}
	d := disk.New()
	put(t, open(t, d, 1<<16), 1, texts(2, 100)...)
	put(t, open(t, d, 1<<16), 3, "same")
	put(t, open(t, d, 64), 4, "other")
	mustHave(t, "opened with less", d, "log-0000000001 log-0000000004")
}

// What a segment is: a position of more than ten digits has them all.
func TestLongNames(t *testing.T) {
	d := disk.New()
	lay(t, d, "log-9999999998", "")
	l := open(t, d, 64)
	put(t, l, 9999999998, texts(2, 40)...)
	put(t, l, 10000000000, texts(2, 41)...)
	put(t, l, 10000000002, "end")
	mustHave(t, "all", d, "log-10000000000 log-10000000002 log-9999999998")
	all := slices.Concat(texts(2, 40), texts(2, 41), []string{"end"})
	mustTell(t, "all", l, 9999999998, all...)
	l = open(t, d, 64)
	mustTell(t, "opened again", l, 9999999998, all...)
	must(t, "Drop", l.Drop(10000000000), api.OK)
	mustHave(t, "dropped", d, "log-10000000000 log-10000000002")
}

// R3: neither the list nor what is behind it is kept or written into.
func TestAppendKeepsNothing(t *testing.T) {
	l := open(t, disk.New(), 64)
	room := []string{"a", "b", "c", "d"}
	put(t, l, 1, room[:2]...)
	put(t, l, 3, "x")
	if !slices.Equal(room, []string{"a", "b", "c", "d"}) {
		t.Errorf("the list is %q", room)
	}
	room[0], room[1], room[2] = "1", "2", "3"
	mustTell(t, "all", l, 1, "a", "b", "x")
}

// P6.3: Flush, once and again, of nothing, of some; Sure behind each call.
func TestFlush(t *testing.T) {
	d := disk.New()
	l := open(t, d, 64)
	must(t, "nothing", l.Flush(), api.OK)
	mustHave(t, "nothing", d, "")
	put(t, l, 1, "a")
	put(t, l, 2, "b", "c")
	mustStand(t, "appended", l, 1, 4, 1)
	must(t, "Flush", l.Flush(), api.OK)
	mustStand(t, "flushed", l, 1, 4, 4)
	must(t, "again", l.Flush(), api.OK)
	mustStand(t, "again", l, 1, 4, 4)
	put(t, l, 4, "d")
	mustStand(t, "one more", l, 1, 5, 4)
	d.Crash(nil)
	mustTell(t, "what was flushed", open(t, d, 64), 1, "a", "b", "c")
}

// P6.3: what stands in a segment is sure when a new one is begun, and what is in
// the new one is not.
func TestSureByBeginning(t *testing.T) {
	d := disk.New()
	l := open(t, d, 64)
	full := strings.Repeat("f", 64)
	put(t, l, 1, full, "a")
	put(t, l, 3, full)
	mustStand(t, "two segments", l, 1, 4, 3)
	put(t, l, 4, full)
	mustStand(t, "three", l, 1, 5, 4)
	d.Crash(nil)
	l = open(t, d, 64)
	mustTell(t, "crashed", l, 1, full, "a", full)
	mustStand(t, "crashed", l, 1, 4, 4)
}

// P6.3: what was there at Open is sure, though it was never synced ahead of it.
func TestSureByOpen(t *testing.T) {
	d := disk.New()
	put(t, open(t, d, 64), 1, "a", "b")
	mustStand(t, "opened", open(t, d, 64), 1, 3, 3)
	d.Crash(nil)
	mustTell(t, "crashed", open(t, d, 64), 1, "a", "b")
}

// P6.3: a Flush syncs only where something isn't sure: it is no act else.
func TestFlushActs(t *testing.T) {
	d := disk.New()
	l := open(t, d, 64)
	d.Power(0)
	must(t, "nothing to do", l.Flush(), api.OK)
	d.Power(2)
	put(t, l, 1, "a")
	must(t, "the second act", l.Flush(), api.OK)
	must(t, "nothing to do again", l.Flush(), api.OK)
	if d.Off() {
		t.Error("it is off")
	}
	d.Power(-1)
	l = open(t, d, 64)
	d.Power(0)
	must(t, "nothing since Open", l.Flush(), api.OK)
}
