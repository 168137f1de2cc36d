package store

import (
	"slices"
	"strconv"
	"strings"

	"wherry/api"
	"wherry/disk"
	"wherry/frame"
	"wherry/run"
	"wherry/wire"
)

// The names of the store's files: a beginning, and a number in ten digits.
const (
	runBegin      = "run-"
	manifestBegin = "man-"
	digits        = 10
	nameBytes     = len(runBegin) + digits
	lastNumber    = 9999999999 // the greatest one of ten digits
)

const manifestKind = 4

// checkpoint is what a manifest tells, but for the number of the next run.
type checkpoint struct {
	generation uint64 // 0: there is no manifest
	tag        uint64
	runs       []table // the oldest first
}

// table is a run and its file's name.
type table struct {
	name  string
	cells *run.Run
}

// nameOf is the name of the file of a number.
func nameOf(begin string, number uint64) string {
	s := strconv.FormatUint(number, 10)
	return begin + strings.Repeat("0", max(0, digits-len(s))) + s
}

// numberOf is the number that a file's name tells, and whether the name is one
// of the store's. It is written again and compared, so that no other way to
// write a number is one.
func numberOf(begin, name string) (uint64, bool) {
	s, _ := strings.CutPrefix(name, begin)
	n, err := strconv.ParseUint(s, 10, 64)
	if err != nil || n < 1 || n > lastNumber || name != nameOf(begin, n) {
		return 0, false
	}
	return n, true
}

// isFile: is it the name of a run or of a manifest?
func isFile(name string) bool {
	_, isRun := numberOf(runBegin, name)
	_, isManifest := numberOf(manifestBegin, name)
	return isRun || isManifest
}

// filesOf are the names of the files of checkpoints. Of the generation 0 there is
// none, and its name is no file's of the store.
func filesOf(l ...checkpoint) map[string]struct{} {
	names := map[string]struct{}{}
	for _, c := range l {
		names[nameOf(manifestBegin, c.generation)] = struct{}{}
		for _, t := range c.runs {
			names[t.name] = struct{}{}
		}
	}
	return names
}

// putManifest are a manifest's bytes.
func putManifest(c checkpoint, next uint64) (string, api.Errno) {
	var names []string
	for _, t := range c.runs {
		names = append(names, t.name)
	}
	return frame.Put(manifestKind, wire.Uint(c.generation)+wire.Uint(c.tag)+wire.Uint(next)+wire.List(names))
}

// newest is the checkpoint of the good manifest of the highest generation, and
// the number of the next run; those of an empty store, if none is good. The
// names rise as the generations do.
func newest(d *disk.Disk) (checkpoint, uint64) {
	for _, name := range slices.Backward(d.Names()) {
		if c, next, good := takeManifest(d, name); good {
			return c, next
		}
	}
	return checkpoint{}, 1
}

// takeManifest is the checkpoint that a file tells and the number of the next
// run, and whether it is a good manifest.
func takeManifest(d *disk.Disk, name string) (checkpoint, uint64, bool) {
	generation, is := numberOf(manifestBegin, name)
	if !is {
		return checkpoint{}, 0, false
	}
	// Of a file that can't be read there are no bytes, and these are no frame.
	bytes, _ := d.Read(name)
	kind, load, size, err := frame.Take(bytes)
	if err != api.OK || kind != manifestKind || size != len(bytes) {
		return checkpoint{}, 0, false
	}
	r := wire.Read(load)
	own, tag, next, names := r.Uint(), r.Uint(), r.Uint(), r.List(api.MaxRuns, nameBytes)
	if r.End() != api.OK || own != generation || next < 1 {
		return checkpoint{}, 0, false
	}
	runs, good := openRuns(d, names, next)
	if !good {
		return checkpoint{}, 0, false
	}
	return checkpoint{generation, tag, runs}, next, true
}

// openRuns are the runs of these names, and whether their numbers rise and are
// below next, and each run is there and is one.
func openRuns(d *disk.Disk, names []string, next uint64) ([]table, bool) {
	var runs []table
	ahead := uint64(0)
	for _, name := range names {
		number, is := numberOf(runBegin, name)
		if !is || number <= ahead || number >= next {
			return nil, false
		}
		ahead = number
		// Of a file that isn't there there are no bytes, and these are no run.
		bytes, _ := d.Read(name)
		r, err := run.Open(bytes)
		if err != api.OK {
			return nil, false
		}
		runs = append(runs, table{name, r})
	}
	return runs, true
}
