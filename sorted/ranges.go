package sorted

import (
	"iter"
	"slices"
	"sort"
	"strings"
)

// All ranges over all, rising.
func (m *Map[V]) All() iter.Seq2[string, V] {
	return m.over(slices.All[[]cell[V]])
}

// From ranges over those from a key on.
func (m *Map[V]) From(k string) iter.Seq2[string, V] {
	return m.over(func(cells []cell[V]) iter.Seq2[int, cell[V]] {
		return slices.All(cells[place(cells, k):])
	})
}

// Down ranges over all, falling.
func (m *Map[V]) Down() iter.Seq2[string, V] {
	return m.over(slices.Backward[[]cell[V]])
}

// Under ranges over those that begin so.
func (m *Map[V]) Under(prefix string) iter.Seq2[string, V] {
	return m.over(func(cells []cell[V]) iter.Seq2[int, cell[V]] {
		return slices.All(beginning(cells, prefix))
	})
}

// over ranges over the cells that pick picks. It is asked when the range
// begins, not ahead, and the cells are lent from then on, however the range is
// left.
func (m *Map[V]) over(pick func([]cell[V]) iter.Seq2[int, cell[V]]) iter.Seq2[string, V] {
	return func(yield func(string, V) bool) {
		if m == nil {
			return
		}
		back := m.lend()
		defer back()
		for _, c := range pick(m.cells) {
			if !yield(c.key, c.value) {
				return
			}
		}
	}
}

// lend tells the map that a range over its cells begins; what it answers tells
// that it is over. The count is that of these cells, not of the map: it may
// have others by then.
func (m *Map[V]) lend() func() {
	if m.lent == nil {
		m.lent = new(int)
	}
	lent := m.lent
	*lent++
	return func() { *lent-- }
}

// beginning is the cells whose keys begin with prefix: they stand together,
// from its own place on.
func beginning[V any](cells []cell[V], prefix string) []cell[V] {
	cells = cells[place(cells, prefix):]
	n := sort.Search(len(cells), func(i int) bool { return !strings.HasPrefix(cells[i].key, prefix) })
	return cells[:n]
}
