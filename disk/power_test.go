package disk_test

import (
	"math"
	"strconv"
	"strings"
	"testing"

	"wherry/api"
	"wherry/disk"
)

// acts are all calls that need power, each such that it would be answered OK on
// a disk with a file a of at least one byte.
func acts() map[string]func(*disk.Disk) api.Errno {
	return map[string]func(*disk.Disk) api.Errno{
		"Append":         func(d *disk.Disk) api.Errno { return d.Append("a", "q") },
		"Append nothing": func(d *disk.Disk) api.Errno { return d.Append("a", "") },
		"Append anew":    func(d *disk.Disk) api.Errno { return d.Append("new", "q") },
		"Sync":           func(d *disk.Disk) api.Errno { return d.Sync("a") },
		"Cut":            func(d *disk.Disk) api.Errno { return d.Cut("a", 1) },
		"Delete":         func(d *disk.Disk) api.Errno { return d.Delete("a") },
	}
}

// P4.2, P4.3: the first act without power is answered ErrDead, nothing comes of
// it, and the disk is off; ahead of it the disk isn't.
func TestNoPower(t *testing.T) {
	for what, act := range acts() {
		d := with(t, "xy", "z")
		d.Power(0)
		if d.Off() {
			t.Errorf("%s: off ahead of any act", what)
		}
		mustRead(t, what+": ahead", d, "a", "xyz")
		must(t, what, act(d), api.ErrDead)
		if !d.Off() {
			t.Errorf("%s: it isn't off", what)
		}
		mustHave(t, what, d, "a")
		d.Crash([]int{9})
		mustHave(t, what, d, "a")
		mustRead(t, what, d, "a", "xyz")
		d = with(t, "xy", "z")
		d.Power(0)
		must(t, what, act(d), api.ErrDead)
		d.Crash(nil)
		mustRead(t, what+": what is safe", d, "a", "xy")
	}
}

// Words: each act takes the power of one.
func TestOneAct(t *testing.T) {
	for what, act := range acts() {
		d := with(t, "xy", "z")
		d.Power(1)
		must(t, what, act(d), api.OK)
		if d.Off() {
			t.Errorf("%s: off behind the last act", what)
		}
		must(t, what+": one more", d.Append("b", ""), api.ErrDead)
		if !d.Off() {
			t.Errorf("%s: it isn't off", what)
		}
	}
}

// Words: what is answered otherwise than OK is no act, and Read and Names are
// none: they take no power, and without any they don't turn the disk off.
func TestNoActs(t *testing.T) {
	long := strings.Repeat("x", api.MaxFile)
	for _, n := range []int{0, 1} {
		d := full(t)
		d.Power(n)
		must(t, "no name", d.Append("", "x"), api.ErrArg)
		must(t, "too many files", d.Append("more", ""), api.ErrFull)
		must(t, "too many bytes", d.Append("1", long+"x"), api.ErrFull)
		must(t, "Sync of none", d.Sync("more"), api.ErrNone)
		must(t, "Cut of none", d.Cut("more", 0), api.ErrNone)
		must(t, "Cut of too much", d.Cut("1", 1), api.ErrArg)
		must(t, "Cut below 0", d.Cut("1", -1), api.ErrArg)
		must(t, "Delete of none", d.Delete("more"), api.ErrNone)
		mustMiss(t, "Read of none", d, "more", api.ErrNone)
		mustRead(t, "Read", d, "1", "")
		if l := d.Names(); len(l) != api.MaxFiles {
			t.Errorf("%d files", len(l))
		}
		if d.Clone().Off() || d.Off() {
			t.Error("it is off")
		}
		for range n {
			must(t, "what there is power for", d.Append("1", "x"), api.OK)
		}
		must(t, "what there is none for", d.Append("1", "x"), api.ErrDead)
	}
}

// P4.5: power for so many acts more, told anew each time; below 0: for any
// number.
func TestPower(t *testing.T) {
	count := func(d *disk.Disk) int {
		n := 0
		for n < 1000 && d.Append("a", "x") == api.OK {
			n++
		}
		return n
	}
	for _, x := range []struct {
		what  string
		power []int
		want  int
	}{
		{"never told", nil, 1000}, {"none", []int{0}, 0}, {"one", []int{1}, 1}, {"seven", []int{7}, 7},
		{"999", []int{999}, 999}, {"any", []int{-1}, 1000}, {"any, far below", []int{math.MinInt}, 1000},
		{"most", []int{math.MaxInt}, 1000}, {"more", []int{3, 5}, 5}, {"less", []int{5, 3}, 3},
		{"none, then two", []int{0, 2}, 2}, {"two, then any", []int{2, -5}, 1000}, {"any, then none", []int{-1, 0}, 0},
	} {
		d := disk.New()
		for _, n := range x.power {
			d.Power(n)
		}
		if n := count(d); n != x.want {
			t.Errorf("%s: %d acts, want %d", x.what, n, x.want)
		}
	}
	d := disk.New()
	d.Power(3)
	must(t, "one of three", d.Append("a", ""), api.OK)
	d.Power(3)
	if n := count(d); n != 3 {
		t.Errorf("three more: %d", n)
	}
}

// Words: a disk that is off answers ErrDead, ahead of all other errors; P4.4:
// its names are told; P4.5: no power turns it on, but a crash does.
func TestOff(t *testing.T) {
	d := dead(t)
	for _, n := range []int{0, 5, -1} {
		d.Power(n)
		if !d.Off() {
			t.Errorf("Power(%d): it isn't off", n)
		}
		for what, err := range refusals(d) {
			must(t, what, err, api.ErrDead)
		}
		mustMiss(t, "off", d, "a", api.ErrDead)
		mustMiss(t, "off", d, "none", api.ErrDead)
		mustHave(t, "off", d, "a")
	}
	if c := d.Clone(); !c.Off() || c.Sync("a") != api.ErrDead {
		t.Error("its clone isn't off")
	}
	d.Power(2)
	d.Crash(nil)
	if d.Off() {
		t.Error("off behind a crash")
	}
	mustRead(t, "behind a crash", d, "a", "xy")
	for i := range 100 {
		must(t, "act "+strconv.Itoa(i), d.Append("a", "z"), api.OK)
	}
}

// refusals are answers to calls that need power, good ones and wrong ones.
func refusals(d *disk.Disk) map[string]api.Errno {
	m := map[string]api.Errno{
		"no name": d.Append("", "x"), "too long": d.Append("a", strings.Repeat("x", api.MaxFile)),
		"Sync of none": d.Sync("none"), "Cut of none": d.Cut("none", 0), "Delete of none": d.Delete("none"),
		"Cut below 0": d.Cut("a", -1), "Cut above": d.Cut("a", 3),
	}
	for what, act := range acts() {
		m[what] = act(d)
	}
	return m
}

// P4.5: of the file at place i of Names the first keep[i] bytes of the rest are
// left, and safe.
func TestCrash(t *testing.T) {
	for _, x := range []struct {
		keep    []int
		a, b, c string
	}{
		{nil, "xy", "", ""}, {[]int{}, "xy", "", ""}, {[]int{0, 0, 0}, "xy", "", ""},
		{[]int{1}, "xyz", "", ""}, {[]int{2}, "xyz1", "", ""}, {[]int{3}, "xyz12", "", ""},
		{[]int{4}, "xyz12", "", ""}, {[]int{math.MaxInt, math.MaxInt, math.MaxInt}, "xyz12", "pqr", ""},
		{[]int{0, 2}, "xy", "pq", ""}, {[]int{-1, 3, 5}, "xy", "pqr", ""},
		{[]int{math.MinInt, 1}, "xy", "p", ""}, {[]int{1, -7}, "xyz", "", ""},
		{[]int{1, 1, 1, 1, 1}, "xyz", "p", ""},
	} {
		d := with(t, "xy", "z12")
		must(t, "c", d.Append("c", ""), api.OK)
		must(t, "b", d.Append("b", "pqr"), api.OK)
		keep := append([]int(nil), x.keep...)
		d.Crash(keep)
		for i, n := range keep {
			if n != x.keep[i] {
				t.Errorf("%v was written into: %v", x.keep, keep)
			}
		}
		for _, time := range []string{"first", "again"} { // What is left is safe.
			mustHave(t, time, d, "a b c")
			mustRead(t, time, d, "a", x.a)
			mustRead(t, time, d, "b", x.b)
			mustRead(t, time, d, "c", x.c)
			d.Crash(nil)
		}
		must(t, "more", d.Append("a", "Q"), api.OK)
		mustRead(t, "more", d, "a", x.a+"Q")
	}
}

// P4.5: a crash of a disk without files does no harm, and power for any number
// of acts comes of one, though the disk wasn't off.
func TestCrashOfPower(t *testing.T) {
	d := disk.New()
	d.Power(0)
	d.Crash([]int{1, 2, 3})
	mustHave(t, "without files", d, "")
	for i := range 100 {
		must(t, "act "+strconv.Itoa(i), d.Append("a", "x"), api.OK)
	}
}

// P4.5: a clone is the same in all, and neither sees what becomes of the other.
func TestClone(t *testing.T) {
	d := with(t, "xy", "z")
	must(t, "b", d.Append("b", "pq"), api.OK)
	d.Power(3)
	c := d.Clone()
	must(t, "cut", d.Cut("a", 1), api.OK)
	must(t, "over what was cut", d.Append("a", "QQ"), api.OK)
	must(t, "delete", d.Delete("b"), api.OK)
	must(t, "the fourth", d.Sync("a"), api.ErrDead)
	if c.Off() {
		t.Error("the clone is off")
	}
	mustHave(t, "the clone", c, "a b")
	mustRead(t, "the clone", c, "a", "xyz")
	mustRead(t, "the clone", c, "b", "pq")
	must(t, "the clone's first act", c.Append("a", "1"), api.OK)
	must(t, "its second", c.Sync("b"), api.OK)
	must(t, "its third", c.Append("new", ""), api.OK)
	must(t, "its fourth", c.Append("a", "2"), api.ErrDead)
	d.Crash([]int{9})
	c.Crash([]int{1})
	mustHave(t, "the disk", d, "a")
	mustRead(t, "the disk", d, "a", "xQQ")
	mustHave(t, "the clone", c, "a b new")
	mustRead(t, "the clone", c, "a", "xyz")
	mustRead(t, "the clone", c, "b", "pq")
}

// P4.5: bytes that both have room for behind theirs are each one's own.
func TestCloneAppends(t *testing.T) {
	d := disk.New()
	for range 100 {
		must(t, "Append", d.Append("a", "x"), api.OK)
	}
	c, e := d.Clone(), d.Clone()
	must(t, "the disk", d.Append("a", "d"), api.OK)
	must(t, "a clone", c.Append("a", "c"), api.OK)
	must(t, "another", e.Append("a", "e"), api.OK)
	long := strings.Repeat("x", 100)
	mustRead(t, "the disk", d, "a", long+"d")
	mustRead(t, "a clone", c, "a", long+"c")
	mustRead(t, "another", e, "a", long+"e")
	must(t, "of a clone", e.Clone().Delete("a"), api.OK)
	mustRead(t, "another, its clone without", e, "a", long+"e")
}
