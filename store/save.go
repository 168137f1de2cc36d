package store

import (
	"iter"
	"slices"

	"wherry/api"
	"wherry/run"
	"wherry/sorted"
)

// Save lays a checkpoint down.
func (s *Store) Save(tag uint64) api.Errno {
	switch {
	case s == nil:
		return api.ErrArg
	case tag < s.last.tag:
		return api.ErrOrder
	}
	for _, step := range s.steps(tag) {
		if err := step(); err != api.OK {
			return err
		}
	}
	return api.OK
}

// steps are those of a checkpoint. They work on one that is not the store's until
// its manifest is safe: where one of them can't, the store is as it was.
func (s *Store) steps(tag uint64) []func() api.Errno {
	c := checkpoint{generation: s.last.generation + 1, tag: tag, runs: slices.Clone(s.last.runs)}
	return []func() api.Errno{
		s.sweep,
		func() api.Errno {
			if s.memory.Len() == 0 {
				return api.OK
			}
			t, err := s.build(s.memory.All())
			c.runs = append(c.runs, t)
			return err
		},
		func() api.Errno {
			if len(c.runs) <= s.most {
				return api.OK
			}
			t, err := s.build(there(newestFirst(c.runs, "")))
			c.runs = []table{t}
			return err
		},
		func() api.Errno { return s.seal(c) },
		func() api.Errno {
			s.become(c)
			return api.OK
		},
		s.sweep,
	}
}

// build lays the run of cells down as a new file.
func (s *Store) build(cells iter.Seq2[string, api.Cell]) (table, api.Errno) {
	bytes, err := run.Build(s.block, cells)
	if err != api.OK || s.next > lastNumber {
		return table{}, api.ErrFull
	}
	name := nameOf(runBegin, s.next)
	// Whatever becomes of the file: the number is never another run's.
	s.next++
	if err := s.lay(name, bytes); err != api.OK {
		return table{}, err
	}
	r, err := run.Open(bytes)
	return table{name, r}, err
}

// seal lays a checkpoint's manifest down.
func (s *Store) seal(c checkpoint) api.Errno {
	bytes, err := putManifest(c, s.next)
	if err != api.OK || c.generation > lastNumber {
		return api.ErrFull
	}
	return s.lay(nameOf(manifestBegin, c.generation), bytes)
}

// lay makes a new file whose bytes are safe.
func (s *Store) lay(name, bytes string) api.Errno {
	if err := s.disk.Append(name, bytes); err != api.OK {
		return err
	}
	return s.disk.Sync(name)
}

// become makes a checkpoint the last one. The memory is a new one: ranges may
// still go over the old.
func (s *Store) become(c checkpoint) {
	s.kept = filesOf(s.last, c)
	s.older = s.last.tag
	s.last = c
	s.memory = sorted.New[api.Cell]()
}

// sweep deletes those of the store's files that are not kept.
func (s *Store) sweep() api.Errno {
	for _, name := range s.disk.Names() {
		if _, keeps := s.kept[name]; keeps || !isFile(name) {
			continue
		}
		if err := s.disk.Delete(name); err != api.OK {
			return err
		}
	}
	return api.OK
}
