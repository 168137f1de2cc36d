package store_test

import (
	"fmt"
	"slices"
	"testing"

	"wherry/api"
	"wherry/disk"
	"wherry/store"
)

// P8.1: which disks, blocks and runs there may be.
func TestOpenArguments(t *testing.T) {
	for _, block := range []int{63, 0, -1, -64, 4097, 1 << 40, -1 << 63, 1<<63 - 1} {
		mustNotOpen(t, fmt.Sprint("block ", block), disk.New(), block, 4, api.ErrArg)
	}
	for _, runs := range []int{0, -1, 17, 1 << 40, -1 << 63, 1<<63 - 1} {
		mustNotOpen(t, fmt.Sprint("runs ", runs), disk.New(), 64, runs, api.ErrArg)
	}
	for _, block := range []int{64, 65, 4095, 4096} {
		for _, runs := range []int{1, 2, 15, 16} {
			s, err := store.Open(disk.New(), block, runs)
			if s == nil || err != api.OK {
				t.Fatalf("block %d, runs %d: %d", block, runs, err)
			}
		}
	}
	mustNotOpen(t, "nil disk", nil, 64, 4, api.ErrArg)
	mustNotOpen(t, "nil disk, no runs", nil, 64, 0, api.ErrArg)
}

// P8.1: of a disk that is off: its error, but behind ErrArg; nothing is deleted.
func TestOpenOff(t *testing.T) {
	full := files(t, map[string]string{manName(1): manOf(1, 5, 2, runName(1)), runName(1): runOf(64), runName(7): "x"})
	for what, d := range map[string]*disk.Disk{"empty": dead(disk.New()), "with files": dead(full)} {
		names := d.Names()
		mustNotOpen(t, what, d, 64, 4, api.ErrDead)
		mustNotOpen(t, what+", block 63", d, 63, 4, api.ErrArg)
		mustNotOpen(t, what+", 17 runs", d, 64, 17, api.ErrArg)
		mustHave(t, what, d, names...)
	}
}

// P8.1: of an empty disk: no runs, generation 0, tag 0, the next run is number 1;
// no file is made.
func TestOpenEmpty(t *testing.T) {
	d := disk.New()
	s := open(t, d, 4)
	mustStand(t, "empty", s, 0, 0, 0)
	mustTell(t, "empty", s, "")
	mustMiss(t, "empty", s, "", "a")
	mustHave(t, "empty", d)
	save(t, s, "a=x", 0)
	mustHave(t, "saved", d, manName(1), runName(1))
	mustBe(t, "saved", d, manName(1), manOf(1, 0, 2, runName(1)))
}

// whole are the files of a store of generation 7, tag 70, the runs 2, 3 and 5
// and the next number 9; and of the good manifest below it, of the runs 2 and 3.
func whole() map[string]string {
	return map[string]string{
		runName(2): runOf(64, changes("a=1 b=1 c=1")...),
		runName(3): runOf(100, changes("-b c=2 d=2")...),
		runName(5): runOf(64, changes("a=3 e=3")...),
		manName(7): manOf(7, 70, 9, runNames(2, 3, 5)...),
		manName(6): manOf(6, 60, 4, runNames(2, 3)...),
	}
}

// with is a disk of whole with other files; an empty text is a file that isn't
// there.
func with(t *testing.T, other map[string]string) *disk.Disk {
	t.Helper()
	m := whole()
	for name, s := range other {
		m[name] = s
		if s == "" {
			delete(m, name)
		}
	}
	return files(t, m)
}

// mustSeven and mustSix hold a store and its disk to the manifest 7's and 6's.
func mustSeven(t *testing.T, what string, d *disk.Disk) {
	t.Helper()
	s := open(t, d, 4)
	mustStand(t, what, s, 70, 0, 3)
	mustTell(t, what, s, "a=3 c=2 d=2 e=3")
	mustMiss(t, what, s, "b")
	mustHave(t, what, d, append(runNames(2, 3, 5), manName(7))...)
	save(t, s, "f=4", 71)
	mustStand(t, what+", saved", s, 71, 70, 4)
	mustHave(t, what+", saved", d, append(runNames(2, 3, 5, 9), manName(7), manName(8))...)
	mustBe(t, what, d, manName(8), manOf(8, 71, 10, runNames(2, 3, 5, 9)...))
}

func mustSix(t *testing.T, what string, d *disk.Disk) {
	t.Helper()
	s := open(t, d, 4)
	mustStand(t, what, s, 60, 0, 2)
	mustTell(t, what, s, "a=1 c=2 d=2")
	mustMiss(t, what, s, "b", "e")
	mustHave(t, what, d, append(runNames(2, 3), manName(6))...)
	save(t, s, "f=4", 60)
	mustStand(t, what+", saved", s, 60, 60, 3)
	mustHave(t, what+", saved", d, append(runNames(2, 3, 4), manName(6), manName(7))...)
	mustBe(t, what, d, manName(7), manOf(7, 60, 5, runNames(2, 3, 4)...))
}

// P8.1: the good manifest of the highest generation counts, whatever stands in
// the others.
func TestOpenCounts(t *testing.T) {
	mustSeven(t, "whole", with(t, nil))
	mustSeven(t, "alone", with(t, map[string]string{manName(6): ""}))
	mustSeven(t, "bad ones around it", with(t, map[string]string{manName(8): "x", manName(6): "x", manName(9999999999): "x"}))
	mustSeven(t, "runs behind it", with(t, map[string]string{runName(9): runOf(64), runName(1): "x", runName(4): runOf(64, is("a", "9"))}))
	mustSeven(t, "a higher tag below it", with(t, map[string]string{manName(6): manOf(6, 80, 9, runNames(2, 3)...)}))
	mustSix(t, "without it", with(t, map[string]string{manName(7): ""}))
	// What generation a manifest is of, its number tells, not its digits.
	low := with(t, map[string]string{manName(7): "", manName(10): manOf(10, 90, 1)})
	s := open(t, low, 4)
	mustStand(t, "10 above 6", s, 90, 0, 0)
	mustHave(t, "10 above 6", low, manName(10))
}

// many is a disk of whole whose manifest 7 is of n other runs, and their names.
func many(t *testing.T, n int) (*disk.Disk, []string) {
	t.Helper()
	d := with(t, map[string]string{manName(7): ""})
	var names []string
	for i := range n {
		names = append(names, runName(uint64(10+i)))
		lay(t, d, names[i], runOf(64, is(fmt.Sprintf("k%02d", i), "x")))
	}
	lay(t, d, manName(7), manOf(7, 70, uint64(10+n), names...))
	return d, names
}

// P8.1: a manifest in which one thing is wrong is not good: the one below it
// counts.
func TestOpenNotGood(t *testing.T) {
	runs := runNames(2, 3, 5)
	right := manOf(7, 70, 9, runs...)
	load := number(7) + number(70) + number(9) + list(runs...)
	for what, s := range map[string]string{
		"another kind":              framed(3, load),
		"kind 0":                    framed(0, load),
		"kind 5":                    framed(5, load),
		"bytes behind":              right + "\x00",
		"a frame behind":            right + right,
		"bytes ahead":               "\x00" + right,
		"cut off":                   right[:len(right)-1],
		"only its sum":              right[:4],
		"another sum":               "\x00" + right[1:],
		"a bit of the load":         right[:12] + string([]byte{right[12] ^ 1}) + right[13:],
		"no frame":                  load,
		"bytes behind in the load":  framed(4, load+"\x00"),
		"bytes missing in the load": framed(4, load[:len(load)-1]),
		"an empty load":             framed(4, ""),
		"a load of numbers only":    framed(4, number(7)+number(70)+number(9)),
		"a number's other form":     framed(4, "\x87\x00"+load[1:]),
		"a lower generation":        manOf(6, 70, 9, runs...),
		"a higher generation":       manOf(8, 70, 9, runs...),
		"generation 0":              manOf(0, 70, 9, runs...),
		"generation 7 and 2^32":     manOf(7+1<<32, 70, 9, runs...),
		"next number 0":             manOf(7, 70, 0),
		"next number 0 and runs":    manOf(7, 70, 0, runs...),
		"names that fall":           manOf(7, 70, 9, runNames(3, 2, 5)...),
		"the last two fall":         manOf(7, 70, 9, runNames(2, 5, 3)...),
		"a name twice":              manOf(7, 70, 9, runNames(2, 3, 3)...),
		"the first twice":           manOf(7, 70, 9, runNames(2, 2, 3)...),
		"the last is the next":      manOf(7, 70, 5, runs...),
		"the last is above it":      manOf(7, 70, 4, runs...),
		"all are above it":          manOf(7, 70, 1, runs...),
		"no such run":               manOf(7, 70, 9, runNames(2, 4, 5)...),
		"no such run at its end":    manOf(7, 70, 9, runNames(2, 3, 5, 8)...),
		"an empty name":             manOf(7, 70, 9, runName(2), "", runName(5)),
		"number 0":                  manOf(7, 70, 9, runName(0), runName(2)),
		"a manifest's name":         manOf(7, 70, 9, manName(6)),
		"a name of nine digits":     manOf(7, 70, 9, "run-000000002"),
		"a name of eleven digits":   manOf(7, 70, 9, "run-00000000002"),
		"a name without a number":   manOf(7, 70, 9, "run-"),
		"a name with a sign":        manOf(7, 70, 9, "run-+000000002"),
		"a name in other letters":   manOf(7, 70, 9, "Run-0000000002"),
		"a name with a letter":      manOf(7, 70, 9, "run-000000000a"),
		"a name of 2^63":            manOf(7, 70, 1<<64-1, "run-9223372036854775808"),
	} {
		d := with(t, map[string]string{manName(7): s})
		// Runs are there under each of these names, which are none of the store's.
		beside := []string{"run-0000000000", "run-000000002", "run-00000000002", "run-", "run-+000000002", "Run-0000000002", "run-000000000a", "run-9223372036854775808"}
		for _, name := range beside {
			lay(t, d, name, runOf(64))
		}
		mustSixBeside(t, what, d, beside...)
	}
	d := with(t, map[string]string{manName(7): ""})
	lay(t, d, manName(7), "")
	mustSix(t, "no bytes", d)
}

// mustSixBeside is mustSix of a disk with other files.
func mustSixBeside(t *testing.T, what string, d *disk.Disk, others ...string) {
	t.Helper()
	s := open(t, d, 4)
	mustStand(t, what, s, 60, 0, 2)
	mustTell(t, what, s, "a=1 c=2 d=2")
	mustHave(t, what, d, slices.Concat(runNames(2, 3), []string{manName(6)}, others)...)
}

// P8.1: a manifest of which a run isn't there, or is none, is not good.
func TestOpenRunsNotGood(t *testing.T) {
	five := whole()[runName(5)]
	for what, s := range map[string]string{
		"not there": "", "cut off": five[:len(five)-1], "bytes behind": five + "\x00",
		"another byte": "\x00" + five[1:], "a manifest": manOf(5, 1, 1), "a log's bytes": framed(1, "x"),
	} {
		mustSix(t, what, with(t, map[string]string{runName(5): s}))
	}
	d := with(t, map[string]string{runName(5): ""})
	lay(t, d, runName(5), "")
	mustSix(t, "no bytes", d)
	// The run 3 is of both: none is good.
	d = with(t, map[string]string{runName(3): "x", "log-0000000001": "y"})
	s := open(t, d, 4)
	mustStand(t, "of both", s, 0, 0, 0)
	mustTell(t, "of both", s, "")
	mustHave(t, "of both", d, "log-0000000001")
	save(t, s, "a=x", 1)
	mustHave(t, "of both, saved", d, "log-0000000001", manName(1), runName(1))
	mustBe(t, "of both, saved", d, manName(1), manOf(1, 1, 2, runName(1)))
}

// P8.1: 16 runs may be, 17 not, however many Open was told.
func TestOpenMany(t *testing.T) {
	for _, n := range []int{1, 2, 15, 16} {
		for _, told := range []int{1, 4, 16} {
			d, names := many(t, n)
			s := open(t, d, told)
			mustStand(t, fmt.Sprintf("%d runs, told %d", n, told), s, 70, 0, n)
			mustHave(t, "many", d, append(names, manName(7))...)
			mustMiss(t, "many", s, "a")
			for i := range n {
				if v, has := s.Get(fmt.Sprintf("k%02d", i)); v != "x" || !has {
					t.Errorf("%d runs: key %d: %q %t", n, i, v, has)
				}
			}
		}
	}
	for _, n := range []int{17, 18, 40} {
		d, _ := many(t, n)
		mustSix(t, fmt.Sprintf("%d runs", n), d)
	}
}

// P8.1: of a good manifest the next number may be any, and the runs none.
func TestOpenGood(t *testing.T) {
	for _, next := range []uint64{6, 7, 9999999999, 10000000000, 1<<64 - 1} {
		d := with(t, map[string]string{manName(7): manOf(7, 1<<64-1, next, runNames(2, 3, 5)...)})
		s := open(t, d, 4)
		mustStand(t, fmt.Sprint("next ", next), s, 1<<64-1, 0, 3)
		must(t, "Save", s.Save(1<<64-1), api.OK)
		mustBe(t, "the next number stays", d, manName(8), manOf(8, 1<<64-1, next, runNames(2, 3, 5)...))
	}
	for _, generation := range []uint64{7, 8, 9999999998, 9999999999} {
		d := with(t, map[string]string{manName(7): "", manName(generation): manOf(generation, 3, 1)})
		s := open(t, d, 4)
		mustStand(t, fmt.Sprint("generation ", generation), s, 3, 0, 0)
		mustTell(t, "no runs", s, "")
		mustHave(t, "no runs", d, manName(generation))
	}
	last := files(t, map[string]string{runName(9999999999): runOf(64, is("a", "x")), manName(1): manOf(1, 2, 10000000000, runName(9999999999))})
	s := open(t, last, 4)
	mustStand(t, "the last number", s, 2, 0, 1)
	mustTell(t, "the last number", s, "a=x")
}

// others are files that are not the store's, though some begin like its own.
func others() []string {
	return []string{
		"a", "log-0000000001", "man-", "run-", "man", "run", "man-000000000", "run-000000000", "man-00000000001", "run-00000000001",
		"man-0000000000", "run-0000000000", "man-000000000a", "run-a000000000", "Man-0000000001", "RUN-0000000001", "man_0000000001",
		"run 0000000001", "man-+000000001", "run--000000001", "man-0x00000001", "run-0_00000001", "man-0000000001 ", " run-0000000001",
		"xman-0000000001", "runs-0000000001", "ran-0000000001", "mun-0000000001", "man-00000000\x001", "run-\xff000000001", "run-١000000001",
		"man-10000000000", "zzz", "run-0000000001.old",
	}
}

// P8.1: files that aren't the store's are left alone, by Open and by Save.
func TestOthersLeft(t *testing.T) {
	d := files(t, map[string]string{manName(1): "x", runName(1): "y", runName(9999999999): "z", manName(9999999999): ""})
	for _, name := range others() {
		lay(t, d, name, "of another")
	}
	s := open(t, d, 1)
	mustHave(t, "opened", d, others()...)
	for i := range uint64(4) {
		save(t, s, fmt.Sprintf("a=%d b%d=x", i, i), i)
	}
	own := []string{manName(3), manName(4), runName(5), runName(7)}
	mustHave(t, "saved", d, slices.Concat(others(), own)...)
	for _, name := range others() {
		mustBe(t, "saved", d, name, "of another")
	}
	mustTell(t, "saved", open(t, d, 1), "a=3 b0=x b1=x b2=x b3=x")
}

// P8.1: all other files are deleted by rising names; where the disk has no power
// for it, its error, and what was deleted ahead is gone.
func TestOpenDeletes(t *testing.T) {
	full := with(t, map[string]string{manName(2): "x", manName(9): "y", runName(1): "z", runName(4): runOf(64), runName(10): "x", "a": "b", "z": "b"})
	gone := []string{manName(2), manName(6), manName(9), runName(1), runName(4), runName(10)}
	for acts := range len(gone) + 1 {
		d := full.Clone()
		d.Power(acts)
		what := fmt.Sprintf("power for %d", acts)
		if acts == len(gone) {
			s := open(t, d, 4)
			mustStand(t, what, s, 70, 0, 3)
		} else {
			mustNotOpen(t, what, d, 64, 4, api.ErrDead)
		}
		left := slices.DeleteFunc(full.Names(), func(name string) bool { return slices.Contains(gone[:acts], name) })
		mustHave(t, what, d, left...)
		d.Crash(nil)
		d.Delete("a")
		d.Delete("z")
		mustSeven(t, what+", opened again", d)
	}
	// With nothing to delete no power is asked for.
	d := with(t, map[string]string{manName(6): ""})
	d.Power(0)
	open(t, d, 4)
	if d.Off() {
		t.Error("off, though nothing was to be done")
	}
}

// P8.1: the memory of a store that is opened is empty: nothing of it is on the
// disk but by Save.
func TestOpenForgets(t *testing.T) {
	d := disk.New()
	s := open(t, d, 4)
	save(t, s, "a=x b=y", 5)
	apply(t, s, "a=z -b c=w")
	mustTell(t, "applied", s, "a=z c=w")
	mustTell(t, "opened", open(t, d, 4), "a=x b=y")
	mustHave(t, "opened", d, manName(1), runName(1))
}
