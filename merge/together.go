package merge

import (
	"iter"
	"strings"
)

type cell[V any] struct {
	key   string
	value V
}

// together is what ranges come to, by rising keys. A range can't be stopped
// and gone on with later, so all are gone through ahead of telling any key.
// They are put together by halves: a cell is moved as often as there are
// halves, not as there are ranges.
func together[V any](l []iter.Seq2[string, V]) []cell[V] {
	switch len(l) {
	case 0:
		return nil
	case 1:
		return rising(l[0])
	}
	half := len(l) / 2
	return join(together(l[:half]), together(l[half:]))
}

// rising is those of a range that are above each one ahead of them.
func rising[V any](s iter.Seq2[string, V]) []cell[V] {
	var cells []cell[V]
	for k, v := range orderly(s) {
		if n := len(cells); n == 0 || k > cells[n-1].key {
			cells = append(cells, cell[V]{k, v})
		}
	}
	return cells
}

// join is two rising lists as one; a key that both have is first's.
func join[V any](first, second []cell[V]) []cell[V] {
	both := make([]cell[V], 0, len(first)+len(second))
	for len(first) > 0 && len(second) > 0 {
		switch strings.Compare(first[0].key, second[0].key) {
		case 0:
			second = second[1:]
		case -1:
			both, first = append(both, first[0]), first[1:]
		case 1:
			both, second = append(both, second[0]), second[1:]
		}
	}
	return append(append(both, first...), second...)
}
