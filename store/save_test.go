package store_test

import (
	"fmt"
	"slices"
	"strings"
	"testing"

	"wherry/api"
	"wherry/disk"
	"wherry/store"
)

// P8.4: a tag below the store's is refused, and nothing is done; the same one and
// one above are taken.
func TestSaveTags(t *testing.T) {
	d := disk.New()
	s := open(t, d, 4)
	save(t, s, "a=1", 5)
	lay(t, d, runName(50), "a file that a Save would delete")
	apply(t, s, "a=2")
	for _, tag := range []uint64{4, 0, 1} {
		must(t, fmt.Sprint("tag ", tag), s.Save(tag), api.ErrOrder)
		mustStand(t, "refused", s, 5, 0, 1)
		mustHave(t, "refused", d, manName(1), runName(1), runName(50))
		mustTell(t, "refused", s, "a=2")
	}
	must(t, "the same", s.Save(5), api.OK)
	mustStand(t, "the same", s, 5, 5, 2)
	must(t, "above", s.Save(6), api.OK)
	mustStand(t, "above", s, 6, 5, 2)
	must(t, "the greatest", s.Save(1<<64-1), api.OK)
	mustStand(t, "the greatest", s, 1<<64-1, 6, 2)
	must(t, "below the greatest", s.Save(1<<64-2), api.ErrOrder)
	must(t, "the greatest again", s.Save(1<<64-1), api.OK)
	mustStand(t, "the greatest again", s, 1<<64-1, 1<<64-1, 2)
	must(t, "off", dark(t, d, s).Save(0), api.ErrOrder)
}

// dark is the store of a disk that was turned off.
func dark(t *testing.T, d *disk.Disk, s *store.Store) *store.Store {
	t.Helper()
	d.Power(0)
	must(t, "no power", d.Append("another", ""), api.ErrDead)
	return s
}

// P8.4 and P8.5: what there is behind each Save: the files, the tags, the runs;
// a Save changes no key's value.
func TestSaveByAndBy(t *testing.T) {
	d := disk.New()
	s := open(t, d, 2)
	for i, x := range []struct {
		l     string
		tag   uint64
		older uint64
		runs  int
		files []string
		keys  string
	}{
		{"", 3, 0, 0, []string{manName(1)}, ""},
		{"a=1 b=1", 4, 3, 1, []string{manName(1), manName(2), runName(1)}, "a=1 b=1"},
		{"", 4, 4, 1, []string{manName(2), manName(3), runName(1)}, "a=1 b=1"},
		{"-b c=2", 6, 4, 2, []string{manName(3), manName(4), runName(1), runName(2)}, "a=1 c=2"},
		{"", 7, 6, 2, []string{manName(4), manName(5), runName(1), runName(2)}, "a=1 c=2"},
		{"d=3", 8, 7, 1, []string{manName(5), manName(6), runName(1), runName(2), runName(4)}, "a=1 c=2 d=3"},
		{"-a -c -d -e", 9, 8, 2, []string{manName(6), manName(7), runName(4), runName(5)}, ""},
		{"-a", 10, 9, 1, []string{manName(7), manName(8), runName(4), runName(5), runName(7)}, ""},
		{"", 11, 10, 1, []string{manName(8), manName(9), runName(7)}, ""},
		{"x=4", 12, 11, 2, []string{manName(9), manName(10), runName(7), runName(8)}, "x=4"},
		{"", 12, 12, 2, []string{manName(10), manName(11), runName(7), runName(8)}, "x=4"},
	} {
		what := fmt.Sprintf("Save %d", i+1)
		apply(t, s, x.l)
		mustTell(t, what+", ahead", s, x.keys)
		must(t, what, s.Save(x.tag), api.OK)
		mustStand(t, what, s, x.tag, x.older, x.runs)
		mustHave(t, what, d, x.files...)
		mustTell(t, what, s, x.keys)
		u := open(t, d.Clone(), 2)
		mustStand(t, what+", opened", u, x.tag, 0, x.runs)
		mustTell(t, what+", opened", u, x.keys)
	}
	mustBe(t, "the run of no keys", d, runName(7), runOf(64))
	mustBe(t, "the last manifest", d, manName(11), manOf(11, 12, 9, runNames(7, 8)...))
}

// P8.4, step 3: as many runs as Open was told stay, one more are put together:
// the keys that are there, with their cells.
func TestSaveMerges(t *testing.T) {
	for _, told := range []int{1, 2, 3, 15, 16} {
		d := disk.New()
		s := open(t, d, told)
		for i := range told {
			save(t, s, fmt.Sprintf("a=%d b%02d=x -b%02d", i, i, i-1), uint64(i))
			mustStand(t, fmt.Sprintf("told %d", told), s, uint64(i), uint64(max(i-1, 0)), i+1)
		}
		last := fmt.Sprintf("b%02d=x", told-1)
		save(t, s, "-a c=y", 99)
		mustStand(t, fmt.Sprintf("told %d, one more", told), s, 99, uint64(told-1), 1)
		mustTell(t, "one more", s, last+" c=y")
		n := uint64(told) + 2
		mustBe(t, "one more", d, runName(n), runOf(64, changes(last+" c=y")...))
		mustBe(t, "one more", d, manName(uint64(told)+1), manOf(uint64(told)+1, 99, n+1, runName(n)))
	}
}

// P8.4, step 3: where a store was opened with more runs than it is told, they are
// put together though nothing is in the memory.
func TestSaveMergesOld(t *testing.T) {
	for _, told := range []int{1, 2, 15, 16} {
		d, names := many(t, 16)
		s := open(t, d, told)
		must(t, "Save", s.Save(70), api.OK)
		what := fmt.Sprint("told ", told)
		if told == 16 {
			mustStand(t, what, s, 70, 70, 16)
			mustHave(t, what, d, slices.Concat(names, []string{manName(7), manName(8)})...)
			continue
		}
		mustStand(t, what, s, 70, 70, 1)
		mustHave(t, what, d, slices.Concat(names, []string{manName(7), manName(8), runName(26)})...)
		must(t, "Save", s.Save(71), api.OK)
		mustHave(t, what, d, manName(8), manName(9), runName(26))
		if n := len(strings.Fields(tellAll(s))); n != 16 {
			t.Errorf("%s: %d keys", what, n)
		}
	}
}

// tellAll is what a store has.
func tellAll(s *store.Store) string { return told(s.From("")) }

// P8.4: runs are of blocks of the store's size.
func TestSaveBlocks(t *testing.T) {
	var l []api.Change
	for i := range 300 {
		l = append(l, is(fmt.Sprintf("key%03d", i), long(i%70)))
	}
	for _, block := range []int{64, 65, 1024, 4096} {
		d := disk.New()
		s, err := store.Open(d, block, 1)
		must(t, "Open", err, api.OK)
		must(t, "Apply", s.Apply(l), api.OK)
		must(t, "Save", s.Save(1), api.OK)
		mustBe(t, fmt.Sprint("block ", block), d, runName(1), runOf(block, l...))
		must(t, "Apply", s.Apply([]api.Change{none("key000")}), api.OK)
		must(t, "Save", s.Save(2), api.OK)
		mustBe(t, fmt.Sprint("block ", block, ", put together"), d, runName(3), runOf(block, l[1:]...))
	}
}

// big are changes of n keys that begin so, each with a value of 16384 bytes:
// of 63 a run can be built, of 64 not.
func big(begin string, n int) []api.Change {
	var l []api.Change
	for i := range n {
		l = append(l, is(fmt.Sprintf("%s%02d", begin, i), long(16384)))
	}
	return l
}

// P8.4: ErrFull, if chapter 7 builds no run of the memory: the store is as it
// was, and the number of a run that wasn't built is the next one's.
func TestSaveFull(t *testing.T) {
	d := disk.New()
	s := open(t, d, 4)
	save(t, s, "a=x", 1)
	must(t, "Apply", s.Apply(big("k", 64)), api.OK)
	for range 3 {
		must(t, "too much", s.Save(2), api.ErrFull)
		mustStand(t, "too much", s, 1, 0, 1)
		mustHave(t, "too much", d, manName(1), runName(1))
		if v, has := s.Get("k63"); len(v) != 16384 || !has {
			t.Error("a key of the memory is lost", len(v), has)
		}
	}
	must(t, "off, and too much", dark(t, d, s).Save(2), api.ErrFull)
	d.Crash(nil)
	apply(t, s, "-k63")
	must(t, "less", s.Save(3), api.OK)
	mustStand(t, "less", s, 3, 1, 2)
	mustHave(t, "less", d, manName(1), manName(2), runName(1), runName(2))
	mustBe(t, "less", d, manName(2), manOf(2, 3, 3, runNames(1, 2)...))
}

// P8.4: ErrFull, if chapter 7 builds no run of all runs: the store is as it was,
// but for the number of the run that was built of the memory.
func TestSaveFullMerge(t *testing.T) {
	d := disk.New()
	s := open(t, d, 1)
	must(t, "Apply", s.Apply(big("k", 40)), api.OK)
	must(t, "Save", s.Save(1), api.OK)
	must(t, "Apply", s.Apply(big("l", 40)), api.OK)
	for i := range uint64(3) {
		must(t, "too much", s.Save(2), api.ErrFull)
		mustStand(t, "too much", s, 1, 0, 1)
		mustHave(t, "too much", d, manName(1), runName(1), runName(2+i))
		for _, k := range []string{"k00", "k39", "l00", "l39"} {
			if v, has := s.Get(k); len(v) != 16384 || !has {
				t.Error(k, "is lost", len(v), has)
			}
		}
	}
	for _, c := range big("k", 20) {
		must(t, "Apply", s.Apply([]api.Change{none(c.K)}), api.OK)
	}
	must(t, "less", s.Save(3), api.OK)
	mustStand(t, "less", s, 3, 1, 1)
	mustHave(t, "less", d, manName(1), manName(2), runName(1), runName(6))
	mustBe(t, "less", d, manName(2), manOf(2, 3, 7, runName(6)))
}

// P8.4: the disk's own ErrFull, where it has too many files: of a run that was
// built the number is never another's.
func TestSaveDiskFull(t *testing.T) {
	d := disk.New()
	s := open(t, d, 4)
	save(t, s, "a=x", 1)
	other := func(i int) string { return fmt.Sprintf("other%d", i) }
	for i := range 254 {
		lay(t, d, other(i), "")
	}
	apply(t, s, "b=y")
	must(t, "no room for a run", s.Save(2), api.ErrFull)
	mustStand(t, "no room for a run", s, 1, 0, 1)
	must(t, "Delete", d.Delete(other(0)), api.OK)
	must(t, "no room for a manifest", s.Save(2), api.ErrFull)
	mustStand(t, "no room for a manifest", s, 1, 0, 1)
	if n := len(d.Names()); n != 256 {
		t.Errorf("%d files", n)
	}
	mustTell(t, "no room", s, "a=x b=y")
	must(t, "Delete", d.Delete(other(1)), api.OK)
	must(t, "room for both", s.Save(2), api.OK)
	mustStand(t, "room for both", s, 2, 1, 2)
	mustBe(t, "room for both", d, manName(2), manOf(2, 2, 5, runNames(1, 4)...))
}

// P8.4: there are no names beyond ten digits: no room.
func TestSaveNumbersEnd(t *testing.T) {
	d := files(t, map[string]string{manName(1): manOf(1, 5, 9999999999)})
	s := open(t, d, 1)
	save(t, s, "a=x", 6)
	mustHave(t, "the last run", d, manName(1), manName(2), runName(9999999999))
	mustBe(t, "the last run", d, manName(2), manOf(2, 6, 10000000000, runName(9999999999)))
	apply(t, s, "b=y")
	must(t, "no number for a run", s.Save(7), api.ErrFull)
	mustStand(t, "no number for a run", s, 6, 5, 1)
	mustHave(t, "no number for a run", d, manName(1), manName(2), runName(9999999999))
	mustTell(t, "no number for a run", s, "a=x b=y")
	s = open(t, d, 1)
	must(t, "no run is to be built", s.Save(7), api.OK)
	mustHave(t, "no run is to be built", d, manName(2), manName(3), runName(9999999999))

	d = files(t, map[string]string{manName(9999999998): manOf(9999999998, 5, 1)})
	s = open(t, d, 1)
	must(t, "the last generation", s.Save(6), api.OK)
	must(t, "behind it", s.Save(7), api.ErrFull)
	mustStand(t, "behind it", s, 6, 5, 0)
	mustHave(t, "behind it", d, manName(9999999998), manName(9999999999))

	d = files(t, map[string]string{manName(1): manOf(1, 5, 1<<64-1)})
	s = open(t, d, 1)
	apply(t, s, "a=x")
	must(t, "a number of 2^64 - 1", s.Save(6), api.ErrFull)
	mustHave(t, "a number of 2^64 - 1", d, manName(1))
}

// ready is a store with a checkpoint and one ahead of it, files that step 1
// deletes (man-0000000099, run-0000000099, run-0000000100), two runs and changes
// in the memory, so that a Save of two runs at most does all of its steps.
func ready(t *testing.T) (*disk.Disk, *store.Store) {
	t.Helper()
	d := disk.New()
	s := open(t, d, 2)
	save(t, s, "a=1 b=1", 1)
	save(t, s, "-b c=2", 2)
	lay(t, d, runName(99), "x")
	lay(t, d, runName(100), "y")
	lay(t, d, manName(99), "z")
	lay(t, d, "log-0000000001", "of another")
	apply(t, s, "d=3 -e")
	return d, s
}

// stage is what there is when the power ends behind some acts of ready's Save.
type stage struct {
	acts  int
	done  string   // which step came to its end
	files []string // beside the log's
	next  uint64   // the number of the run that the next Save builds first
	saved bool
}

// stages are those of ready's Save, act by act.
func stages() []stage {
	m := []string{manName(1), manName(2), runName(1), runName(2)}
	all := func(more ...string) []string { return slices.Concat(m, more) }
	last := []string{manName(2), manName(3), runName(1), runName(2), runName(4)}
	return []stage{
		{0, "nothing", all(manName(99), runName(99), runName(100)), 3, false},
		{1, "a manifest is deleted", all(runName(99), runName(100)), 3, false},
		{2, "a run is deleted", all(runName(100)), 3, false},
		{3, "step 1", all(), 4, false},
		{4, "the run is appended", all(runName(3)), 4, false},
		{5, "step 2", all(runName(3)), 5, false},
		{6, "the second run is appended", all(runName(3), runName(4)), 5, false},
		{7, "step 3", all(runName(3), runName(4)), 5, false},
		{8, "the manifest is appended", all(runName(3), runName(4), manName(3)), 5, false},
		{9, "step 4", all(runName(3), runName(4), manName(3)), 5, true},
		{10, "the manifest ahead is deleted", append(last, runName(3)), 5, true},
		{11, "step 5", last, 5, true},
	}
}

// P8.4: where the power ends at a step, the store is as it was, but that the
// number of a run that was built is never another's; behind step 4 the checkpoint
// stands.
func TestSavePowerEnds(t *testing.T) {
	for _, x := range stages() {
		d, s := ready(t)
		d.Power(x.acts)
		want := api.ErrDead
		if x.acts == 11 {
			want = api.OK
		}
		must(t, x.done, s.Save(3), want)
		mustHave(t, x.done, d, append(x.files, "log-0000000001")...)
		mustTell(t, x.done, s, "a=1 c=2 d=3")
		if x.saved {
			mustStand(t, x.done, s, 3, 2, 1)
		} else {
			mustStand(t, x.done, s, 2, 1, 2)
		}
		d.Crash(nil)
		mustGoOn(t, x, d, s)
	}
}

// P8.4: of a disk that is off each Save that comes to step 2 builds a run, whose
// number is never another's.
func TestSaveOffAgain(t *testing.T) {
	d := disk.New()
	s := open(t, d, 2)
	save(t, s, "a=1", 1)
	apply(t, s, "b=2")
	for range 3 {
		must(t, "off", dark(t, d, s).Save(2), api.ErrDead)
		mustStand(t, "off", s, 1, 0, 1)
		mustHave(t, "off", d, manName(1), runName(1))
	}
	d.Crash(nil)
	must(t, "on again", s.Save(2), api.OK)
	mustHave(t, "on again", d, manName(1), manName(2), runName(1), runName(5))
	mustBe(t, "on again", d, manName(2), manOf(2, 2, 6, runNames(1, 5)...))
	// Of one that doesn't come there, none is built.
	lay(t, d, runName(77), "x")
	apply(t, s, "c=3")
	must(t, "off at step 1", dark(t, d, s).Save(3), api.ErrDead)
	d.Crash(nil)
	must(t, "on again", s.Save(3), api.OK)
	mustBe(t, "on again", d, manName(3), manOf(3, 3, 8, runName(7)))
	// With nothing in the memory the manifest is the first act.
	must(t, "off at step 4", dark(t, d, s).Save(4), api.ErrDead)
	d.Crash(nil)
	must(t, "on again", s.Save(4), api.OK)
	mustBe(t, "on again", d, manName(4), manOf(4, 4, 8, runName(7)))
}

// mustGoOn holds a store to what it is when the disk has power again: the next
// Save does what was left undone.
func mustGoOn(t *testing.T, x stage, d *disk.Disk, s *store.Store) {
	t.Helper()
	what := x.done + ", on again"
	if !x.saved {
		must(t, what, s.Save(9), api.OK)
		mustStand(t, what, s, 9, 2, 1)
		mustHave(t, what, d, manName(2), manName(3), runName(1), runName(2), runName(x.next+1), "log-0000000001")
		mustBe(t, what, d, manName(3), manOf(3, 9, x.next+2, runName(x.next+1)))
		mustBe(t, what, d, runName(x.next+1), runOf(64, changes("a=1 c=2 d=3")...))
	} else {
		must(t, what, s.Save(9), api.OK)
		mustStand(t, what, s, 9, 3, 1)
		mustHave(t, what, d, manName(3), manName(4), runName(4), "log-0000000001")
		mustBe(t, what, d, manName(4), manOf(4, 9, 5, runName(4)))
	}
	mustTell(t, what, s, "a=1 c=2 d=3")
	mustTell(t, what+", opened", open(t, d, 2), "a=1 c=2 d=3")
}
