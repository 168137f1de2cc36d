package keep

import (
	"iter"

	"wherry/api"
)

type row struct{ key, value string }

func gathered(rows iter.Seq2[string, string]) []row {
	var l []row
	if rows == nil {
		return l
	}
	for k, v := range rows {
		l = append(l, row{k, v})
	}
	return l
}

// fit: do rows rise, and has each value room in a store?
func fit(rows iter.Seq2[string, string]) bool {
	last := ""
	for k, v := range rows {
		if k <= last || len(v) > api.MaxCell {
			return false
		}
		last = k
	}
	return true
}

// rising are those whose keys are above each one ahead of them.
func rising(l []row) []row {
	var up []row
	for _, r := range l {
		if n := len(up); n == 0 || r.key > up[n-1].key {
			up = append(up, r)
		}
	}
	return up
}

// unlike are the changes that make of rows those that are wanted. Both rise.
func unlike(was, wanted []row) []api.Change {
	var changes []api.Change
	for len(was) > 0 || len(wanted) > 0 {
		switch {
		case len(wanted) == 0 || len(was) > 0 && was[0].key < wanted[0].key:
			changes = append(changes, api.Change{K: was[0].key, Cell: api.Cell{Gone: true}})
			was = was[1:]
		case len(was) == 0 || wanted[0].key < was[0].key:
			changes = append(changes, isNow(wanted[0]))
			wanted = wanted[1:]
		default:
			if was[0] != wanted[0] {
				changes = append(changes, isNow(wanted[0]))
			}
			was, wanted = was[1:], wanted[1:]
		}
	}
	return changes
}

func isNow(r row) api.Change {
	return api.Change{K: r.key, Cell: api.Cell{S: r.value}}
}
