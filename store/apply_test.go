package store_test

import (
	"fmt"
	"slices"
	"strings"
	"testing"

	"wherry/api"
	"wherry/disk"
)

// P8.2: changes that may be, at the edges.
func TestApplyEdges(t *testing.T) {
	for what, c := range map[string]api.Change{
		"an empty key":             is("", "x"),
		"an empty value":           is("k", ""),
		"both empty":               is("", ""),
		"a key of 64 bytes":        is(long(64), "x"),
		"a value of 16384 bytes":   is("k", long(16384)),
		"both":                     is(long(64), long(16384)),
		"bytes that are no letter": is("\x00\xff ", "\xff\x00="),
	} {
		d := disk.New()
		s := open(t, d, 4)
		must(t, what, s.Apply([]api.Change{c}), api.OK)
		for _, saved := range []bool{false, true} {
			if v, has := s.Get(c.K); v != c.Cell.S || !has {
				t.Errorf("%s, saved %t: %d bytes, %t", what, saved, len(v), has)
			}
			if got := told(s.From("")); got != c.K+"="+c.Cell.S {
				t.Errorf("%s, saved %t: %.100q", what, saved, got)
			}
			must(t, what, s.Save(1), api.OK)
		}
		must(t, what, s.Apply([]api.Change{none(c.K)}), api.OK)
		mustMiss(t, what+", Gone", s, c.K)
		mustTell(t, what+", Gone", s, "")
	}
}

// P8.2: the first wrong one along the list is told, and nothing is changed.
func TestApplyWrong(t *testing.T) {
	key, value, gone := is(long(65), "x"), is("k", long(16385)), api.Change{K: "k", Cell: api.Cell{S: "x", Gone: true}}
	for i, x := range []struct {
		l    []api.Change
		want api.Errno
	}{
		{[]api.Change{key}, api.ErrLong},
		{[]api.Change{value}, api.ErrLong},
		{[]api.Change{gone}, api.ErrArg},
		{[]api.Change{is(long(1<<20), "")}, api.ErrLong},
		{[]api.Change{none(long(65))}, api.ErrLong},
		{[]api.Change{{K: "k", Cell: api.Cell{S: long(16385), Gone: true}}}, api.ErrLong},
		{[]api.Change{{K: long(65), Cell: api.Cell{S: "x", Gone: true}}}, api.ErrLong},
		{[]api.Change{{K: long(64), Cell: api.Cell{S: long(16384), Gone: true}}}, api.ErrArg},
		{[]api.Change{key, gone}, api.ErrLong},
		{[]api.Change{gone, key}, api.ErrArg},
		{[]api.Change{gone, value}, api.ErrArg},
		{[]api.Change{value, gone}, api.ErrLong},
		{[]api.Change{is("a", "9"), is("z", "9"), gone, key}, api.ErrArg},
		{[]api.Change{is("a", "9"), none("b"), key, gone}, api.ErrLong},
		{[]api.Change{none("a"), none("b"), is("c", "9"), gone}, api.ErrArg},
		{[]api.Change{key, is("a", "9")}, api.ErrLong},
	} {
		s := open(t, disk.New(), 4)
		save(t, s, "a=1 b=1", 1)
		apply(t, s, "b=2 c=2")
		must(t, fmt.Sprint("list ", i), s.Apply(x.l), x.want)
		mustTell(t, fmt.Sprint("list ", i), s, "a=1 b=2 c=2")
		mustMiss(t, fmt.Sprint("list ", i), s, "k", "z", long(65))
	}
}

// P8.2: one by one, so that of one key in one list the last one counts.
func TestApplyOneByOne(t *testing.T) {
	for l, want := range map[string]string{
		"":                    "a=1 b=1",
		"a=2 a=3":             "a=3 b=1",
		"a=2 -a":              "b=1",
		"-a a=2":              "a=2 b=1",
		"-a a=2 -a":           "b=1",
		"c=1 c=2 -c":          "a=1 b=1",
		"-c":                  "a=1 b=1",
		"z=1 y=2 x=3 y=4 b=5": "a=1 b=5 x=3 y=4 z=1",
		"-a -b":               "",
	} {
		d := disk.New()
		s := open(t, d, 4)
		apply(t, s, "a=1 b=1")
		apply(t, s, l)
		mustTell(t, "in the memory: "+l, s, want)
		u := open(t, disk.New(), 4)
		save(t, u, "a=1 b=1", 1)
		apply(t, u, l)
		mustTell(t, "above a run: "+l, u, want)
		must(t, l, u.Save(2), api.OK)
		mustTell(t, "saved: "+l, u, want)
	}
}

// P8.2: what becomes of a cell is in the memory, though it be Gone and no run has
// its key: the next run has it.
func TestApplyGoneIsACell(t *testing.T) {
	d := disk.New()
	s := open(t, d, 4)
	save(t, s, "-a", 1)
	mustStand(t, "saved", s, 1, 0, 1)
	mustBe(t, "saved", d, runName(1), runOf(64, none("a")))
	save(t, s, "b=x -b -c c=y", 2)
	mustBe(t, "saved", d, runName(2), runOf(64, none("b"), is("c", "y")))
	mustTell(t, "saved", s, "c=y")
}

// R3: a list that is handed in is neither written into nor kept.
func TestApplyKeepsNothing(t *testing.T) {
	s := open(t, disk.New(), 4)
	l := changes("b=1 a=2 -c d=3")
	was := slices.Clone(l)
	must(t, "Apply", s.Apply(l[:3]), api.OK)
	if !slices.Equal(l, was) {
		t.Errorf("written into: %v", l)
	}
	l[0], l[1] = is("x", "9"), none("a")
	mustTell(t, "the list is another one", s, "a=2 b=1")
}

// layered is a store whose keys stand in the memory and in three runs.
func layered(t *testing.T) (*disk.Disk, string) {
	t.Helper()
	d := disk.New()
	s := open(t, d, 16)
	save(t, s, "a=1 b=1 c=1 d=1 e=1 f=1 g=1", 1)
	save(t, s, "b=2 -c d=2 -e", 2)
	save(t, s, "d=3 e=3 -f h=3", 3)
	return d, "a=1 b=2 d=3 e=3 g=1 h=3"
}

// P8.3: a key's cell is that of the memory, else that of the newest run that has
// one.
func TestGet(t *testing.T) {
	d, want := layered(t)
	s := open(t, d, 16)
	mustTell(t, "runs", s, want)
	mustMiss(t, "runs", s, "c", "f", "", "aa", "z", "A", long(64), long(65), long(1<<20))
	apply(t, s, "-a c=4 d=4 -g -i j=4")
	mustTell(t, "memory and runs", s, "b=2 c=4 d=4 e=3 h=3 j=4")
	mustMiss(t, "memory and runs", s, "a", "f", "g", "i")
	apply(t, s, "a=5 -c -b -d -e -h -j")
	mustTell(t, "more in the memory", s, "a=5")
	mustMiss(t, "more in the memory", s, "b", "c", "d", "e", "f", "g", "h", "i", "j")
}

// P8.3: From of keys that are there, that aren't, and beyond all.
func TestFrom(t *testing.T) {
	d, _ := layered(t)
	s := open(t, d, 16)
	apply(t, s, "-a bb=4 -g i=4 =4")
	for k, want := range map[string]string{
		"": "=4 b=2 bb=4 d=3 e=3 h=3 i=4", "\x00": "b=2 bb=4 d=3 e=3 h=3 i=4", "a": "b=2 bb=4 d=3 e=3 h=3 i=4",
		"b": "b=2 bb=4 d=3 e=3 h=3 i=4", "b\x00": "bb=4 d=3 e=3 h=3 i=4", "bb": "bb=4 d=3 e=3 h=3 i=4", "bba": "d=3 e=3 h=3 i=4",
		"c": "d=3 e=3 h=3 i=4", "f": "h=3 i=4", "g": "h=3 i=4", "h": "h=3 i=4", "i": "i=4", "i\x00": "", "j": "", "\xff": "",
		"d" + long(1000): "e=3 h=3 i=4",
	} {
		if got := told(s.From(k)); got != want {
			t.Errorf("From(%.20q): %q, want %q", k, got, want)
		}
	}
}

// P8.3: a range goes over what is there when it begins, not when it was called.
func TestFromBegins(t *testing.T) {
	s := open(t, disk.New(), 4)
	r := s.From("b")
	if got := told(r); got != "" {
		t.Errorf("empty: %q", got)
	}
	apply(t, s, "a=1 b=1 c=1")
	if got := told(r); got != "b=1 c=1" {
		t.Errorf("applied: %q", got)
	}
	must(t, "Save", s.Save(1), api.OK)
	apply(t, s, "-b d=2")
	if got := told(r); got != "c=1 d=2" {
		t.Errorf("saved, and applied: %q", got)
	}
	save(t, s, "b=3", 2)
	if got := told(r); got != "b=3 c=1 d=2" {
		t.Errorf("saved: %q", got)
	}
}

// P8.3: what becomes of the store while a range goes on changes nothing of it.
func TestFromGoesOn(t *testing.T) {
	d, _ := layered(t)
	for _, runs := range []int{1, 16} {
		s := open(t, d.Clone(), runs)
		apply(t, s, "a=4 x=4 y=4")
		want := "a=4 b=2 d=3 e=3 g=1 h=3 x=4 y=4"
		var got []string
		for k, v := range s.From("") {
			got = append(got, k+"="+v)
			switch len(got) {
			case 1:
				apply(t, s, "-b c=9 d=9 -y zz=9")
			case 2:
				must(t, "Save", s.Save(9), api.OK)
			case 4:
				save(t, s, "-g -h -x", 10)
			}
		}
		if l := strings.Join(got, " "); l != want {
			t.Errorf("%d runs: %q, want %q", runs, l, want)
		}
		mustTell(t, "behind it", s, "a=4 c=9 d=9 e=3 zz=9")
	}
}

// P8.3: a range may be left anywhere, and ranges within ranges know nothing of
// one another.
func TestFromLeft(t *testing.T) {
	d, want := layered(t)
	s := open(t, d, 16)
	r := s.From("")
	for most := range 7 {
		var got []string
		for k, v := range r {
			if len(got) == most {
				break
			}
			if all := told(r); all != want {
				t.Errorf("within: %q", all)
			}
			got = append(got, k+"="+v)
		}
		if l := strings.Fields(want)[:most]; !slices.Equal(got, l) {
			t.Errorf("left behind %d: %q", most, got)
		}
	}
	mustTell(t, "behind it", s, want)
}

// P8.2 and P8.3: a disk that is off refuses neither.
func TestMemoryNeedsNoPower(t *testing.T) {
	d, _ := layered(t)
	s := open(t, d, 16)
	d.Power(0)
	must(t, "Save", s.Save(3), api.ErrDead)
	apply(t, s, "-a c=4")
	mustTell(t, "off", s, "b=2 c=4 d=3 e=3 g=1 h=3")
	mustStand(t, "off", s, 3, 0, 3)
}
