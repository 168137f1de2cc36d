package store_test

import (
	"encoding/binary"
	"fmt"
	"hash/crc32"
	"iter"
	"slices"
	"strings"
	"testing"

	"wherry/api"
	"wherry/disk"
	"wherry/store"
)

// is is a key that has a value, none one that is Gone.
func is(k, s string) api.Change { return api.Change{K: k, Cell: api.Cell{S: s}} }
func none(k string) api.Change  { return api.Change{K: k, Cell: api.Cell{Gone: true}} }

// changes are those that a text tells: "a=x b=" are keys with values, "-c" is
// one that is Gone.
func changes(s string) []api.Change {
	var l []api.Change
	for _, w := range strings.Fields(s) {
		if k, gone := strings.CutPrefix(w, "-"); gone {
			l = append(l, none(k))
			continue
		}
		k, v, _ := strings.Cut(w, "=")
		l = append(l, is(k, v))
	}
	return l
}

// long is a text of n bytes.
func long(n int) string { return strings.Repeat("l", n) }

// number, text and list are chapter 1's bytes, by the library.
func number(n uint64) string { return string(binary.AppendUvarint(nil, n)) }
func text(s string) string   { return number(uint64(len(s))) + s }
func list(l ...string) string {
	s := number(uint64(len(l)))
	for _, x := range l {
		s += text(x)
	}
	return s
}

// low are the four bytes of a number, the lowest first.
func low(n uint32) string { return string(binary.LittleEndian.AppendUint32(nil, n)) }

// framed is chapter 5's frame.
func framed(kind byte, load string) string {
	body := string([]byte{kind}) + text(load)
	return low(crc32.ChecksumIEEE([]byte(body))) + body
}

// runOf are the bytes of the run of these keys and cells, of blocks of that
// size, as chapter 7 says.
func runOf(block int, l ...api.Change) string {
	var loads, firsts []string
	for _, c := range l {
		mark := "\x00"
		if c.Cell.Gone {
			mark = "\x01"
		}
		n := len(loads)
		if n == 0 || len(loads[n-1]) >= block {
			loads, firsts = append(loads, ""), append(firsts, c.K)
			n++
		}
		loads[n-1] += text(c.K) + mark + text(c.Cell.S)
	}
	blocks, index := "", number(uint64(len(loads)))
	for i, load := range loads {
		f := framed(2, load)
		blocks += f
		index += number(uint64(len(f))) + text(firsts[i])
	}
	f := framed(3, index)
	return blocks + f + low(uint32(len(f)))
}

// runName and manName are the names of files.
func runName(n uint64) string { return fmt.Sprintf("run-%010d", n) }
func manName(n uint64) string { return fmt.Sprintf("man-%010d", n) }

// runNames are those of several.
func runNames(l ...uint64) []string {
	var names []string
	for _, n := range l {
		names = append(names, runName(n))
	}
	return names
}

// manOf are the bytes of a manifest, whatever its runs' names are.
func manOf(generation, tag, next uint64, names ...string) string {
	return framed(4, number(generation)+number(tag)+number(next)+list(names...))
}

// files is a disk with these files, all of their bytes safe.
func files(t *testing.T, m map[string]string) *disk.Disk {
	t.Helper()
	d := disk.New()
	for name, s := range m {
		lay(t, d, name, s)
	}
	return d
}

// lay puts a file on a disk, its bytes safe.
func lay(t *testing.T, d *disk.Disk, name, s string) {
	t.Helper()
	if err := d.Append(name, s); err != api.OK {
		t.Fatal(name, err)
	}
	if err := d.Sync(name); err != api.OK {
		t.Fatal(name, err)
	}
}

// open is a store that may be opened, of blocks of 64.
func open(t *testing.T, d *disk.Disk, runs int) *store.Store {
	t.Helper()
	s, err := store.Open(d, 64, runs)
	if s == nil || err != api.OK {
		t.Fatalf("Open: %d", err)
	}
	return s
}

// mustNotOpen holds Open to an error, beside which there is nothing.
func mustNotOpen(t *testing.T, what string, d *disk.Disk, block, runs int, want api.Errno) {
	t.Helper()
	if s, err := store.Open(d, block, runs); s != nil || err != want {
		t.Errorf("%s: a store: %t, error %d; want %d", what, s != nil, err, want)
	}
}

// must holds an answer to what it should be.
func must(t *testing.T, what string, got, want api.Errno) {
	t.Helper()
	if got != want {
		t.Errorf("%s: %d, want %d", what, got, want)
	}
}

// apply applies changes that may be.
func apply(t *testing.T, s *store.Store, l string) {
	t.Helper()
	must(t, "Apply "+l, s.Apply(changes(l)), api.OK)
}

// save lays changes down as a checkpoint.
func save(t *testing.T, s *store.Store, l string, tag uint64) {
	t.Helper()
	apply(t, s, l)
	must(t, fmt.Sprintf("Save(%d) of %s", tag, l), s.Save(tag), api.OK)
}

// told is what a range tells, in its order.
func told(s iter.Seq2[string, string]) string {
	var l []string
	for k, v := range s {
		l = append(l, k+"="+v)
	}
	return strings.Join(l, " ")
}

// mustTell holds a store to its keys and values, by From and by Get.
func mustTell(t *testing.T, what string, s *store.Store, want string) {
	t.Helper()
	if got := told(s.From("")); got != want {
		t.Errorf("%s: %.200q, want %.200q", what, got, want)
	}
	for _, c := range changes(want) {
		if v, has := s.Get(c.K); v != c.Cell.S || !has {
			t.Errorf("%s: Get(%q): %.200q %t", what, c.K, v, has)
		}
	}
}

// mustMiss holds a store to keys that aren't there.
func mustMiss(t *testing.T, what string, s *store.Store, keys ...string) {
	t.Helper()
	for _, k := range keys {
		if v, has := s.Get(k); v != "" || has {
			t.Errorf("%s: Get(%q): %q %t", what, k, v, has)
		}
	}
}

// mustStand holds a store to what its checkpoints are.
func mustStand(t *testing.T, what string, s *store.Store, tag, older uint64, runs int) {
	t.Helper()
	if s.Tag() != tag || s.Older() != older || s.Runs() != runs {
		t.Errorf("%s: tag %d, older %d, %d runs; want %d, %d, %d", what, s.Tag(), s.Older(), s.Runs(), tag, older, runs)
	}
}

// mustHave holds a disk to the names of its files.
func mustHave(t *testing.T, what string, d *disk.Disk, names ...string) {
	t.Helper()
	slices.Sort(names)
	if got := d.Names(); !slices.Equal(got, names) {
		t.Errorf("%s: files %q, want %q", what, got, names)
	}
}

// mustBe holds a file to its bytes, all of them safe.
func mustBe(t *testing.T, what string, d *disk.Disk, name, want string) {
	t.Helper()
	d = d.Clone()
	d.Crash(nil)
	if got, err := d.Read(name); got != want || err != api.OK {
		t.Errorf("%s: %s: %q %d, want %q", what, name, got, err, want)
	}
}

// dead is a disk with the same files that is off.
func dead(d *disk.Disk) *disk.Disk {
	d = d.Clone()
	d.Power(0)
	d.Append("another", "")
	return d
}

// P8.1 to P8.5: the chapter's examples.
func TestExamples(t *testing.T) {
	d := disk.New()
	s := open(t, d, 4)
	save(t, s, "a=x b=y", 5)
	mustHave(t, "saved", d, "run-0000000001", "man-0000000001")
	apply(t, s, "-b")
	mustMiss(t, "b is Gone", s, "b")
	s = open(t, d, 4)
	mustTell(t, "opened again", s, "a=x b=y")
	mustStand(t, "opened again", s, 5, 0, 1)
}

// P8.4: the files of a checkpoint, byte by byte.
func TestBytes(t *testing.T) {
	d := disk.New()
	s := open(t, d, 4)
	save(t, s, "b=y a=x", 300)
	save(t, s, "-b", 301)
	mustHave(t, "saved", d, "man-0000000001", "man-0000000002", "run-0000000001", "run-0000000002")
	for name, want := range map[string]string{
		"run-0000000001": "\x54\x94\x10\x0c\x02\x0a\x01a\x00\x01x\x01b\x00\x01y\x57\xd1\xe2\x45\x03\x04\x01\x10\x01a\x0a\x00\x00\x00",
		"man-0000000001": "\xdd\x26\x03\xb2\x04\x14\x01\xac\x02\x02\x01\x0erun-0000000001",
		"run-0000000002": framed(2, "\x01b\x01\x00") + framed(3, "\x01\x0a\x01b") + "\x0a\x00\x00\x00",
		"man-0000000002": framed(4, "\x02\xad\x02\x03\x02\x0erun-0000000001\x0erun-0000000002"),
	} {
		mustBe(t, "saved", d, name, want)
	}
}

// P8.1 to P8.5: a nil store.
func TestNil(t *testing.T) {
	var s *store.Store
	must(t, "Apply", s.Apply(changes("a=x")), api.ErrArg)
	must(t, "Apply of nothing", s.Apply(nil), api.ErrArg)
	must(t, "Apply of a long key", s.Apply([]api.Change{is(long(65), "")}), api.ErrArg)
	must(t, "Save", s.Save(0), api.ErrArg)
	mustMiss(t, "nil", s, "", "a")
	mustTell(t, "nil", s, "")
	mustStand(t, "nil", s, 0, 0, 0)
}
