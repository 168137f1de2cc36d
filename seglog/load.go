package seglog

import (
	"cmp"
	"slices"

	"wherry/api"
	"wherry/disk"
	"wherry/frame"
	"wherry/wire"
)

const batchKind = 1

// isBatch: are they as many, and as long, as a batch's records may be?
func isBatch(records []string) bool {
	tooLong := func(r string) bool { return len(r) > api.MaxRecord }
	return len(records) > 0 && len(records) <= api.MaxBatch && !slices.ContainsFunc(records, tooLong)
}

// putBatch is the frame of a batch.
func putBatch(first uint64, records []string) (string, api.Errno) {
	return frame.Put(batchKind, wire.Uint(first)+wire.List(records))
}

// takeBatch are the first position and the records that a frame tells, and
// whether it is of a batch.
func takeBatch(kind byte, load string) (uint64, []string, bool) {
	r := wire.Read(load)
	first, records := r.Uint(), r.List(api.MaxBatch, api.MaxRecord)
	if kind != batchKind || r.End() != api.OK || !isBatch(records) {
		return 0, nil, false
	}
	return first, records, true
}

// load reads the segments that a disk has, by rising positions, and tells
// whether bytes are behind the last one's frames.
func load(d *disk.Disk, prefix string) ([]*segment, bool, api.Errno) {
	found := named(d, prefix)
	torn := false
	for i, s := range found {
		bytes, err := d.Read(s.name)
		if err != api.OK {
			return nil, false, err
		}
		// One without records is followed by none: that would have its position.
		follows := i == 0 || !torn && s.first == found[i-1].next()
		if !follows || !s.fill(bytes) {
			return nil, false, api.ErrForm
		}
		torn = s.size < len(bytes)
	}
	return found, torn, api.OK
}

// named are the segments as their names tell them. The names' own order is not
// that of the positions, where one has more digits than another.
func named(d *disk.Disk, prefix string) []*segment {
	var found []*segment
	for _, name := range d.Names() {
		if pos, ok := positionOf(prefix, name); ok {
			found = append(found, &segment{name: name, first: pos})
		}
	}
	slices.SortFunc(found, func(a, b *segment) int { return cmp.Compare(a.first, b.first) })
	return found
}

// fill takes the records of the frames that begin a segment's bytes, and tells
// whether each of these is of a batch, at its own position.
func (s *segment) fill(bytes string) bool {
	for kind, load := range frame.Walk(bytes) {
		first, records, ok := takeBatch(kind, load)
		if !ok || first != s.next() || first+uint64(len(records)) > behindAll {
			return false
		}
		s.records = append(s.records, records...)
	}
	s.size = frame.Good(bytes)
	return true
}

// settle cuts off what is behind the last segment's frames, if anything is, and
// makes these safe: what was read once may not be gone behind the next crash.
func settle(d *disk.Disk, last *segment, torn bool) api.Errno {
	if torn {
		if err := d.Cut(last.name, last.size); err != api.OK {
			return err
		}
	}
	return d.Sync(last.name)
}
