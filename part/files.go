package part

import (
	"iter"

	"wherry/api"
	"wherry/disk"
	"wherry/fold"
	"wherry/keep"
	"wherry/rec"
	"wherry/seglog"
	"wherry/store"
)

const prefix = "log" // of the log's files

// files are what a partition has on its disk.
type files struct {
	log   *seglog.Log
	store *store.Store
}

func open(d *disk.Disk, segment int) (files, api.Errno) {
	l, err := seglog.Open(d, prefix, segment)
	if err != api.OK {
		return files{}, err
	}
	s, err := store.Open(d, api.PartBlock, api.PartRuns)
	if err != api.OK {
		return files{}, err
	}
	return files{l, s}, api.OK
}

// read is the state of the checkpoint, and what the records behind it make of that.
func (f files) read() (api.State, api.Errno) {
	s, err := f.checkpoint()
	if err != api.OK {
		return api.State{}, err
	}
	for pos, bytes := range f.log.From(s.Pos + 1) {
		r, err := rec.Take(bytes)
		if err != api.OK {
			return api.State{}, err
		}
		s = fold.Apply(s, pos, r)
	}
	return s, api.OK
}

// checkpoint is the store's state, if the log goes on behind it.
func (f files) checkpoint() (api.State, api.Errno) {
	var s api.State
	if rows := f.store.From(""); !empty(rows) {
		var err api.Errno
		if s, err = keep.Read(rows); err != api.OK {
			return api.State{}, err
		}
	}
	behind := s.Pos + 1
	if s.Pos != f.store.Tag() || f.log.First() > behind || f.log.Next() < behind {
		return api.State{}, api.ErrForm
	}
	return s, api.OK
}

func empty(rows iter.Seq2[string, string]) bool {
	for range rows {
		return false
	}
	return true
}
