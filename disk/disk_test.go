package disk_test

import (
	"math"
	"slices"
	"strconv"
	"strings"
	"testing"

	"wherry/api"
	"wherry/disk"
)

// must holds what a call answered against what it should.
func must(t *testing.T, what string, got, want api.Errno) {
	t.Helper()
	if got != want {
		t.Errorf("%s: %d, want %d", what, got, want)
	}
}

// mustRead holds a file's bytes against those that it should have.
func mustRead(t *testing.T, what string, d *disk.Disk, name, want string) {
	t.Helper()
	if s, err := d.Read(name); s != want || err != api.OK {
		t.Errorf("%s: Read(%q): %q %d, want %q", what, name, s, err, want)
	}
}

// mustMiss holds Read to an error, beside which there is nothing.
func mustMiss(t *testing.T, what string, d *disk.Disk, name string, want api.Errno) {
	t.Helper()
	if s, err := d.Read(name); s != "" || err != want {
		t.Errorf("%s: Read(%q): %q %d, want nothing and %d", what, name, s, err, want)
	}
}

// mustHave holds the files' names against a text of them with blanks between.
func mustHave(t *testing.T, what string, d *disk.Disk, want string) {
	t.Helper()
	if got := d.Names(); !slices.Equal(got, strings.Fields(want)) {
		t.Errorf("%s: Names: %q, want %q", what, got, want)
	}
}

// with is a disk with a file a: its safe bytes, and its rest.
func with(t *testing.T, safe, rest string) *disk.Disk {
	t.Helper()
	d := disk.New()
	must(t, "safe", d.Append("a", safe), api.OK)
	must(t, "sync", d.Sync("a"), api.OK)
	must(t, "rest", d.Append("a", rest), api.OK)
	return d
}

// dead is a disk that is off, with a file a, safe, which has the bytes xy.
func dead(t *testing.T) *disk.Disk {
	t.Helper()
	d := with(t, "xy", "")
	d.Power(0)
	must(t, "the act without power", d.Sync("a"), api.ErrDead)
	if !d.Off() {
		t.Fatal("it isn't off")
	}
	return d
}

// P4.2 to P4.5: the chapter's examples.
func TestExamples(t *testing.T) {
	d := with(t, "xy", "z")
	d.Crash(nil)
	mustRead(t, "nothing kept", d, "a", "xy")
	d = with(t, "xy", "z")
	d.Crash([]int{1})
	mustRead(t, "one kept", d, "a", "xyz")
	d.Power(1)
	must(t, "one act", d.Append("a", "q"), api.OK)
	must(t, "one more", d.Sync("a"), api.ErrDead)
	mustMiss(t, "off", d, "a", api.ErrDead)
}

// The head of the promises, and R1: a nil disk.
func TestNil(t *testing.T) {
	var d *disk.Disk
	for what, err := range map[string]api.Errno{
		"Append": d.Append("a", "x"), "Append without a name": d.Append("", "x"),
		"Sync": d.Sync("a"), "Cut": d.Cut("a", 0), "Cut below 0": d.Cut("a", -1), "Delete": d.Delete("a"),
	} {
		must(t, what, err, api.ErrArg)
	}
	mustMiss(t, "nil", d, "a", api.ErrArg)
	mustHave(t, "nil", d, "")
	d.Power(1)
	d.Power(-1)
	d.Crash(nil)
	d.Crash([]int{1, 2})
	if d.Off() {
		t.Error("it is off")
	}
	if c := d.Clone(); c != nil {
		t.Errorf("Clone: %v", c)
	}
}

// P4.1: a new disk has no files, power for any number of acts, and nothing in
// common with another.
func TestNew(t *testing.T) {
	d, other := disk.New(), disk.New()
	if d == nil || d.Off() {
		t.Fatal("it is nil or off")
	}
	mustHave(t, "new", d, "")
	mustMiss(t, "new", d, "a", api.ErrNone)
	for i := range 5000 {
		must(t, "act "+strconv.Itoa(i), d.Append("a", "x"), api.OK)
	}
	mustRead(t, "all", d, "a", strings.Repeat("x", 5000))
	mustHave(t, "the other", other, "")
}

// R1: a disk that no call gave is as a new one.
func TestZero(t *testing.T) {
	var d disk.Disk
	d.Crash([]int{1})
	mustHave(t, "zero", &d, "")
	mustMiss(t, "zero", &d, "a", api.ErrNone)
	c := d.Clone()
	must(t, "Append", d.Append("a", "x"), api.OK)
	must(t, "Append to its clone", c.Append("b", "y"), api.OK)
	mustRead(t, "zero", &d, "a", "x")
	mustHave(t, "its clone", c, "b")
}

// P4.2: names have 1 to MaxName bytes, whatever bytes these are.
func TestNamesOfFiles(t *testing.T) {
	for _, x := range []struct {
		name string
		want api.Errno
	}{
		{"", api.ErrArg}, {"a", api.OK}, {"\x00", api.OK}, {"\xff/ .", api.OK},
		{strings.Repeat("n", api.MaxName), api.OK}, {strings.Repeat("n", api.MaxName+1), api.ErrArg},
		{strings.Repeat("n", 1<<16), api.ErrArg},
		{strings.Repeat("é", api.MaxName/2), api.OK}, {strings.Repeat("é", api.MaxName/2+1), api.ErrArg},
	} {
		d := disk.New()
		must(t, "Append", d.Append(x.name, "x"), x.want)
		if x.want == api.OK {
			mustRead(t, "there", d, x.name, "x")
			continue
		}
		mustHave(t, "not there", d, "")
		mustMiss(t, "not there", d, x.name, api.ErrNone)
		must(t, "Sync", d.Sync(x.name), api.ErrNone)
		must(t, "Cut", d.Cut(x.name, 0), api.ErrNone)
		must(t, "Delete", d.Delete(x.name), api.ErrNone)
	}
}

// P4.2: what is appended stands behind what there is, safe or not; a file may be
// without bytes.
func TestAppend(t *testing.T) {
	d := disk.New()
	must(t, "empty", d.Append("a", ""), api.OK)
	mustRead(t, "empty", d, "a", "")
	mustHave(t, "empty", d, "a")
	for _, s := range []string{"x", "", "yz", "\x00\xff"} {
		must(t, "Append", d.Append("a", s), api.OK)
		must(t, "Append", d.Append("b", s+s), api.OK)
	}
	mustRead(t, "all", d, "a", "xyz\x00\xff")
	mustRead(t, "all of the other", d, "b", "xxyzyz\x00\xff\x00\xff")
	must(t, "Sync", d.Sync("a"), api.OK)
	must(t, "Append", d.Append("a", "q"), api.OK)
	mustRead(t, "behind the safe ones", d, "a", "xyz\x00\xffq")
}

// P4.2: a file has MaxFile bytes at most, safe ones and rest, and nothing of
// what is too much is appended.
func TestFullFile(t *testing.T) {
	whole := strings.Repeat("w", api.MaxFile)
	d := disk.New()
	must(t, "a new one, too long", d.Append("a", whole+"w"), api.ErrFull)
	mustHave(t, "none was made", d, "")
	must(t, "just so", d.Append("a", whole), api.OK)
	must(t, "one more", d.Append("a", "x"), api.ErrFull)
	must(t, "none more", d.Append("a", ""), api.OK)
	mustRead(t, "as it was", d, "a", whole)
	must(t, "Sync", d.Sync("a"), api.OK)
	must(t, "one more, all safe", d.Append("a", "x"), api.ErrFull)
	must(t, "far more", d.Append("a", whole), api.ErrFull)
	must(t, "another file", d.Append("b", "x"), api.OK)
	must(t, "to the end", d.Append("b", whole[1:]), api.OK)
	mustRead(t, "two pieces", d, "b", "x"+whole[1:])
	must(t, "Cut", d.Cut("a", api.MaxFile-2), api.OK)
	must(t, "three behind the cut", d.Append("a", "xyz"), api.ErrFull)
	must(t, "two behind the cut", d.Append("a", "xy"), api.OK)
	mustRead(t, "full again", d, "a", whole[2:]+"xy")
}

// full is a disk with MaxFiles files without bytes, 0, 1, and so on.
func full(t *testing.T) *disk.Disk {
	t.Helper()
	d := disk.New()
	for i := range api.MaxFiles {
		must(t, "file "+strconv.Itoa(i), d.Append(strconv.Itoa(i), ""), api.OK)
	}
	return d
}

// P4.2: there are MaxFiles files at most; one that is there can be appended to,
// and one that is deleted makes room for another.
func TestFullDisk(t *testing.T) {
	d := full(t)
	must(t, "one more", d.Append("more", "x"), api.ErrFull)
	must(t, "one more, without bytes", d.Append("more", ""), api.ErrFull)
	if n := len(d.Names()); n != api.MaxFiles {
		t.Errorf("%d files", n)
	}
	must(t, "one of them", d.Append("7", "x"), api.OK)
	mustRead(t, "one of them", d, "7", "x")
	must(t, "Delete", d.Delete("8"), api.OK)
	must(t, "in its place", d.Append("more", "y"), api.OK)
	mustRead(t, "in its place", d, "more", "y")
	must(t, "one more again", d.Append("8", ""), api.ErrFull)
}

// P4.2: Sync makes all of the rest safe, of that file alone.
func TestSync(t *testing.T) {
	d := with(t, "xy", "z")
	must(t, "Append", d.Append("b", "q"), api.OK)
	must(t, "Sync", d.Sync("a"), api.OK)
	mustRead(t, "no byte goes", d, "a", "xyz")
	must(t, "again", d.Sync("a"), api.OK)
	must(t, "none there", d.Sync("c"), api.ErrNone)
	mustHave(t, "none was made", d, "a b")
	d.Crash([]int{-1, -1})
	mustRead(t, "safe", d, "a", "xyz")
	mustRead(t, "not synced", d, "b", "")
}

// P4.3: Cut leaves the first n bytes, safe or not as they were.
func TestCut(t *testing.T) {
	for _, x := range []struct {
		n          int
		want       api.Errno
		left, safe string
	}{
		{0, api.OK, "", ""}, {1, api.OK, "a", "a"}, {2, api.OK, "ab", "ab"},
		{3, api.OK, "abc", "abc"}, {4, api.OK, "abcd", "abc"}, {5, api.OK, "abcde", "abc"},
		{-1, api.ErrArg, "abcde", "abc"}, {6, api.ErrArg, "abcde", "abc"},
		{math.MinInt, api.ErrArg, "abcde", "abc"}, {math.MaxInt, api.ErrArg, "abcde", "abc"},
	} {
		what := "Cut to " + strconv.Itoa(x.n)
		d := with(t, "abc", "de")
		must(t, what, d.Cut("a", x.n), x.want)
		mustRead(t, what, d, "a", x.left)
		must(t, what, d.Append("a", "XY"), api.OK)
		mustRead(t, what+", more behind it", d, "a", x.left+"XY")
		c := d.Clone()
		d.Crash(nil)
		mustRead(t, what+", a crash", d, "a", x.safe)
		c.Crash([]int{len(x.left) - len(x.safe) + 1})
		mustRead(t, what+", a crash that keeps some", c, "a", x.left+"X")
	}
	d := disk.New()
	must(t, "none there", d.Cut("a", 0), api.ErrNone)
	must(t, "none there, below 0", d.Cut("a", -1), api.ErrNone)
}

// P4.3: what is cut stays cut, without a sync, and so does what is deleted;
// that a file was made is sure too, though none of its bytes is.
func TestSureAtOnce(t *testing.T) {
	d := with(t, "abc", "")
	must(t, "Append", d.Append("b", "x"), api.OK)
	must(t, "Sync", d.Sync("b"), api.OK)
	must(t, "Append", d.Append("c", "new"), api.OK)
	must(t, "Append", d.Append("d", ""), api.OK)
	must(t, "Cut", d.Cut("a", 1), api.OK)
	must(t, "Delete", d.Delete("b"), api.OK)
	d.Crash([]int{9, 0, 9})
	mustHave(t, "after the crash", d, "a c d")
	mustRead(t, "cut", d, "a", "a")
	mustMiss(t, "deleted", d, "b", api.ErrNone)
	mustRead(t, "made", d, "c", "")
	mustRead(t, "made without bytes", d, "d", "")
}

// P4.3: Delete takes one file away, and a new one of its name has nothing of it.
func TestDelete(t *testing.T) {
	d := with(t, "abc", "de")
	must(t, "Append", d.Append("b", "x"), api.OK)
	must(t, "none there", d.Delete("c"), api.ErrNone)
	must(t, "Delete", d.Delete("a"), api.OK)
	mustMiss(t, "deleted", d, "a", api.ErrNone)
	mustHave(t, "deleted", d, "b")
	must(t, "Delete again", d.Delete("a"), api.ErrNone)
	must(t, "Sync", d.Sync("a"), api.ErrNone)
	must(t, "Cut", d.Cut("a", 0), api.ErrNone)
	must(t, "made anew", d.Append("a", "vwxyz"), api.OK)
	mustRead(t, "made anew", d, "a", "vwxyz")
	d.Crash(nil)
	mustRead(t, "made anew, a crash", d, "a", "")
	mustRead(t, "the other", d, "b", "")
}

// P4.4: Names are by their bytes, whatever order they were made in, and the
// answer is the asker's own.
func TestNames(t *testing.T) {
	d := disk.New()
	names := []string{"b", "a10", "a", "\xff", "a9", "B", "aa", "\x00", "é"}
	for _, name := range names {
		must(t, "Append", d.Append(name, ""), api.OK)
	}
	want := []string{"\x00", "B", "a", "a10", "a9", "aa", "b", "é", "\xff"}
	got := d.Names()
	if !slices.Equal(got, want) {
		t.Errorf("%q, want %q", got, want)
	}
	got[0] = "written"
	_ = append(got[:1], "over")
	if again := d.Names(); !slices.Equal(again, want) {
		t.Errorf("again: %q, want %q", again, want)
	}
}
