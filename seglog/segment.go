package seglog

import (
	"iter"
	"strconv"
	"strings"

	"wherry/api"
)

const (
	behindAll   = api.MaxPos + 1 // the position behind the last one that a record may have
	leastDigits = 10             // of the position in a segment's name
)

// segment is a file of batches.
type segment struct {
	name    string
	first   uint64 // the position of its first record, or of the one that would be
	size    int    // how many bytes its frames have
	records []string
}

// next is the position behind its records.
func (s *segment) next() uint64 { return s.first + uint64(len(s.records)) }

// add puts the records of a frame behind the others. They are copied: one may be
// a piece of a longer text, which would be kept with it.
func (s *segment) add(records []string, size int) {
	for _, r := range records {
		s.records = append(s.records, strings.Clone(r))
	}
	s.size += size
}

// from ranges over its records from a position on, those among them that are
// added meanwhile.
func (s *segment) from(pos uint64) iter.Seq2[uint64, string] {
	return func(yield func(uint64, string) bool) {
		for at := max(pos, s.first); at < s.next(); at++ {
			if !yield(at, s.records[at-s.first]) {
				return
			}
		}
	}
}

// isPrefix: may the names of a log's segments begin so?
func isPrefix(s string) bool {
	other := func(r rune) bool { return r < 'a' || r > 'z' }
	return s != "" && len(s) <= api.MaxPrefix && strings.IndexFunc(s, other) < 0
}

// nameOf is the name of the segment that begins at a position.
func nameOf(prefix string, pos uint64) string {
	digits := strconv.FormatUint(pos, 10)
	noughts := strings.Repeat("0", max(0, leastDigits-len(digits)))
	return prefix + "-" + noughts + digits
}

// positionOf is the position that a segment's name tells, and whether the name
// is one. It is written again and compared, so that no two files are of one
// position.
func positionOf(prefix, name string) (uint64, bool) {
	digits, _ := strings.CutPrefix(name, prefix+"-")
	pos, err := strconv.ParseUint(digits, 10, 64)
	if err != nil || pos < 1 || pos > behindAll || name != nameOf(prefix, pos) {
		return 0, false
	}
	return pos, true
}
