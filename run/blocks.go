package run

import (
	"wherry/api"
	"wherry/frame"
	"wherry/wire"
)

const (
	blockKind   = 2
	indexKind   = 3
	lengthBytes = 4 // behind the index
)

// span is what the index tells of a block.
type span struct {
	size  int // how many bytes its frame has
	first string
}

// writer lays blocks down, one behind the other.
type writer struct {
	block int    // a load of as many bytes takes no key more
	done  []byte // the frames of the blocks ahead of the last one
	spans []span // theirs
	load  []byte // the last block's; without bytes: there is none
	first string // the last block's first key
}

// add puts a key and its cell behind the others.
func (w *writer) add(k string, c api.Cell) {
	if len(w.load) >= w.block {
		w.close()
	}
	if len(w.load) == 0 {
		w.first = k
	}
	w.load = append(w.load, putCell(k, c)...)
}

// close ends the last block, if there is one. Of a run that is too long already
// nothing more is laid down: it is built no more, only checked to its end.
func (w *writer) close() {
	if len(w.load) > 0 && len(w.done) <= api.MaxFile {
		// No load is too long for a frame: it was below MaxBlock ahead of its last cell.
		bytes, _ := frame.Put(blockKind, string(w.load))
		w.done = append(w.done, bytes...)
		w.spans = append(w.spans, span{len(bytes), w.first})
	}
	w.load = w.load[:0]
}

// end are the run's bytes.
func (w *writer) end() (string, api.Errno) {
	w.close()
	behind, err := tail(w.spans)
	if err != api.OK || len(w.done)+len(behind) > api.MaxFile {
		return "", api.ErrLong
	}
	return string(w.done) + behind, api.OK
}

// tail are the bytes behind a run's blocks: the index, and its length.
func tail(spans []span) (string, api.Errno) {
	load := []byte(wire.Uint(uint64(len(spans))))
	for _, s := range spans {
		load = append(load, wire.Uint(uint64(s.size))...)
		load = append(load, wire.Text(s.first)...)
	}
	index, err := frame.Put(indexKind, string(load))
	if err != api.OK {
		return "", err
	}
	return index + length(len(index)), api.OK
}

// length are the bytes that stand behind an index of n bytes.
func length(n int) string {
	var b [lengthBytes]byte
	for i := range b {
		b[i] = byte(n >> (8 * i))
	}
	return string(b[:])
}

// read are a run's keys and cells and how many blocks they stand in, and whether
// the bytes are a run's. What must stand behind the blocks is made anew from
// them, and compared: so nothing there has two forms.
func read(b string) ([]api.Change, int, bool) {
	var cells []api.Change
	var spans []span
	wrong := checks()
	rest := b
	for {
		kind, load, size, err := frame.Take(rest)
		if err != api.OK || kind != blockKind {
			break
		}
		more, ok := takeCells(load, wrong)
		if !ok {
			return nil, 0, false
		}
		cells = append(cells, more...)
		spans = append(spans, span{size, more[0].K})
		rest = rest[size:]
	}
	behind, err := tail(spans)
	if err != api.OK || rest != behind {
		return nil, 0, false
	}
	return cells, len(spans), true
}
