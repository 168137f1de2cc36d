package run

import (
	"slices"
	"strings"

	"wherry/api"
	"wherry/wire"
)

// The byte between a key and its value.
const (
	there byte = iota
	gone
)

// checks tells of each key and its cell what is wrong with them, behind those
// that it was asked of before.
func checks() func(k string, c api.Cell) api.Errno {
	ahead, begun := "", false
	return func(k string, c api.Cell) api.Errno {
		switch {
		case len(k) > api.MaxKey, len(c.S) > api.MaxCell:
			return api.ErrLong
		case c.Gone && c.S != "":
			return api.ErrArg
		case begun && k <= ahead:
			return api.ErrOrder
		}
		ahead, begun = k, true
		return api.OK
	}
}

// putCell are the bytes of a key and its cell in a block's load.
func putCell(k string, c api.Cell) string {
	mark := there
	if c.Gone {
		mark = gone
	}
	return wire.Text(k) + string([]byte{mark}) + wire.Text(c.S)
}

// takeCell reads a key and its cell, and tells whether they were there.
func takeCell(r *wire.Reader) (api.Change, bool) {
	k, mark, s := r.Text(api.MaxKey), r.Byte(), r.Text(api.MaxCell)
	if r.Err() != api.OK || mark > gone {
		return api.Change{}, false
	}
	return api.Change{K: k, Cell: api.Cell{S: s, Gone: mark == gone}}, true
}

// takeCells are the keys and cells of a block's load, and whether it is one.
func takeCells(load string, wrong func(string, api.Cell) api.Errno) ([]api.Change, bool) {
	var cells []api.Change
	for r := wire.Read(load); r.Left() > 0; {
		c, ok := takeCell(r)
		if !ok || wrong(c.K, c.Cell) != api.OK {
			return nil, false
		}
		cells = append(cells, c)
	}
	return cells, len(cells) > 0
}

// finder is what finds a key among cells that rise by their keys.
func finder(cells []api.Change) func(k string) (int, bool) {
	byKey := func(c api.Change, k string) int { return strings.Compare(c.K, k) }
	return func(k string) (int, bool) { return slices.BinarySearchFunc(cells, k, byKey) }
}
