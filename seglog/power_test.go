package seglog_test

import (
	"strconv"
	"strings"
	"testing"

	"wherry/api"
	"wherry/disk"
)

// P6.2: the disk refuses the first frame: there is neither record nor segment.
func TestAppendRefused(t *testing.T) {
	d := disk.New()
	l := open(t, d, 64)
	d.Power(0)
	mustNotPut(t, "no power", l, api.ErrDead, "a")
	mustNotPut(t, "off", l, api.ErrDead, "a")
	mustHave(t, "off", d, "")
	mustTell(t, "off", l, 1)
	must(t, "nothing to flush", l.Flush(), api.OK)
	must(t, "nothing to drop", l.Drop(9), api.OK)
	mustStand(t, "off", l, 1, 1, 1)
	d.Crash(nil)
	put(t, open(t, d, 64), 1, "a")
}

// P6.2: the frame's first act is what begins a segment: there is none without
// bytes beside it.
func TestAppendActs(t *testing.T) {
	d := disk.New()
	l := open(t, d, 64)
	d.Power(1)
	put(t, l, 1, texts(2, 40)...)
	d.Power(2)
	put(t, l, 3, "c")
	mustHave(t, "begun", d, "log-0000000001 log-0000000003")
	d.Power(1)
	put(t, l, 4, "d")
	mustNotPut(t, "no power", l, api.ErrDead, "e")
	mustTell(t, "no power", l, 1, append(texts(2, 40), "c", "d")...)
}

// P6.2, P6.4: the disk refuses one more frame: what was there is so still, and
// is read of a log whose disk is off; what may not be is refused as ever.
func TestAppendRefusedBehindOthers(t *testing.T) {
	d := disk.New()
	l := open(t, d, 64)
	put(t, l, 1, "a")
	must(t, "Flush", l.Flush(), api.OK)
	put(t, l, 2, "b")
	d.Power(0)
	mustNotPut(t, "no power", l, api.ErrDead, "c", "d")
	mustTell(t, "off", l, 1, "a", "b")
	mustStand(t, "off", l, 1, 3, 2)
	mustNotPut(t, "no batch", l, api.ErrArg)
	mustNotPut(t, "a load too long", l, api.ErrArg, texts(256, 4096)...)
	must(t, "Flush", l.Flush(), api.ErrDead)
	mustStand(t, "off", l, 1, 3, 2)
	d.Crash([]int{1000})
	mustTell(t, "opened again", open(t, d, 64), 1, "a", "b")
}

// P6.2, P6.3: a new segment is to be begun: the disk refuses to sync the last
// one, or the new one; what was synced is sure.
func TestBeginRefused(t *testing.T) {
	for power, sure := range []uint64{1, 3} {
		d := disk.New()
		l := open(t, d, 64)
		put(t, l, 1, texts(2, 40)...)
		d.Power(power)
		what := "power for " + strconv.Itoa(power)
		mustNotPut(t, what, l, api.ErrDead, "c")
		mustStand(t, what, l, 1, 3, sure)
		mustHave(t, what, d, "log-0000000001")
		mustTell(t, what, l, 1, texts(2, 40)...)
		d.Crash(nil)
		l = open(t, d, 64)
		mustTell(t, what+", crashed", l, 1, texts(2, 40)[:sure-1]...)
		put(t, l, sure, "c")
	}
}

// crowded is a disk with 255 files, none of them a segment.
func crowded(t *testing.T) *disk.Disk {
	t.Helper()
	d := disk.New()
	for i := range api.MaxFiles - 1 {
		lay(t, d, "other"+strconv.Itoa(i), "")
	}
	return d
}

// P6.2, P6.3: there is no room for one file more: no record is there, the last
// segment is the one ahead, and all in it is sure; with room it goes on.
func TestBeginWithoutRoom(t *testing.T) {
	d := crowded(t)
	l := open(t, d, 64)
	full := strings.Repeat("f", 64)
	put(t, l, 1, "a")
	put(t, l, 2, full)
	mustStand(t, "full", l, 1, 3, 1)
	for range 2 {
		mustNotPut(t, "no room", l, api.ErrFull, "c")
		mustStand(t, "no room", l, 1, 3, 3)
		mustTell(t, "no room", l, 1, "a", full)
		must(t, "Flush", l.Flush(), api.OK)
		must(t, "Drop", l.Drop(99), api.OK)
		mustTell(t, "nothing dropped", l, 1, "a", full)
	}
	d.Power(0)
	must(t, "nothing to flush", l.Flush(), api.OK)
	d.Power(-1)
	must(t, "room", d.Delete("other7"), api.OK)
	put(t, l, 3, "c")
	mustStand(t, "room", l, 1, 4, 3)
	mustTell(t, "room", l, 1, "a", full, "c")
	d.Crash(nil)
	mustTell(t, "crashed", open(t, d, 64), 1, "a", full)
}

// P6.2: the first segment without room, and with it.
func TestFirstWithoutRoom(t *testing.T) {
	d := crowded(t)
	lay(t, d, "one more", "")
	l := open(t, d, 64)
	mustNotPut(t, "no room", l, api.ErrFull, "a")
	mustTell(t, "no room", l, 1)
	mustStand(t, "no room", l, 1, 1, 1)
	must(t, "room", d.Delete("one more"), api.OK)
	put(t, l, 1, "a")
}

// P6.2: the last segment is synced each time that a new one is to be begun, also
// when nothing of it is unsure any more.
func TestBeginSyncsAgain(t *testing.T) {
	d := disk.New()
	l := open(t, d, 64)
	put(t, l, 1, texts(2, 40)...)
	must(t, "Flush", l.Flush(), api.OK)
	d.Power(1)
	mustNotPut(t, "one act", l, api.ErrDead, "c")
	mustStand(t, "one act", l, 1, 3, 3)
	mustHave(t, "one act", d, "log-0000000001")
}

// P6.3: the disk refuses a Flush: nothing more is sure, nor is it behind a crash.
func TestFlushRefused(t *testing.T) {
	d := disk.New()
	l := open(t, d, 64)
	put(t, l, 1, "a")
	must(t, "Flush", l.Flush(), api.OK)
	put(t, l, 2, "b")
	d.Power(0)
	must(t, "no power", l.Flush(), api.ErrDead)
	must(t, "off", l.Flush(), api.ErrDead)
	mustStand(t, "off", l, 1, 3, 2)
	mustTell(t, "off", l, 1, "a", "b")
	d.Crash(nil)
	mustTell(t, "crashed", open(t, d, 64), 1, "a")
}

// P6.5: the disk refuses to delete one: what was deleted ahead stays so, and the
// others are there.
func TestDropRefused(t *testing.T) {
	for power, x := range []struct {
		first uint64
		files string
	}{{1, "log-0000000001 log-0000000004 log-0000000006"}, {4, "log-0000000004 log-0000000006"}} {
		d, l := three(t)
		must(t, "Flush", l.Flush(), api.OK)
		d.Power(power)
		what := "power for " + strconv.Itoa(power)
		for range 2 {
			must(t, what, l.Drop(99), api.ErrDead)
			mustHave(t, what, d, x.files)
			mustTell(t, what, l, x.first, longs(x.first, 6)...)
			mustStand(t, what, l, x.first, 7, 7)
		}
		d.Crash(nil)
		l = open(t, d, 64)
		mustTell(t, what+", crashed", l, x.first, longs(x.first, 6)...)
		must(t, what+", crashed", l.Drop(99), api.OK)
		mustTell(t, what+", dropped", l, 6, longs(6, 6)...)
	}
	d, l := three(t)
	d.Power(2)
	must(t, "power for both", l.Drop(99), api.OK)
	mustTell(t, "power for both", l, 6, longs(6, 6)...)
}
