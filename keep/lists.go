package keep

import (
	"iter"
	"maps"
	"slices"

	"wherry/api"
)

// list is one of a state's, whatever its elements are. Its keys are without their
// letter.
type list struct {
	may  func() bool
	rows iter.Seq2[string, string]
	take func(k, v string) // puts what a row may be of behind the others
}

// all are the rows of a state, by their letters.
func all(s *api.State) iter.Seq2[string, string] {
	return func(tell func(k, v string) bool) {
		of := lists(s)
		for _, letter := range slices.Sorted(maps.Keys(of)) {
			for k, v := range of[letter].rows {
				if !tell(letter+k, v) {
					return
				}
			}
		}
	}
}

// lists are a state's, by the letters of their keys.
func lists(s *api.State) map[string]list {
	return map[string]list{
		"a": whole(s),
		"g": listOf(&s.Messages, messageKey, messageValue),
		"i": listOf(&s.Insts, instKey, instValue),
		"j": listOf(&s.Jobs, jobKey, jobValue),
		"k": listOf(&s.Kept, keptKey, keptValue),
		"l": listOf(&s.Listed, listedKey, listedValue),
		"p": listOf(&s.Procs, procKey, procValue),
		"r": listOf(&s.Timers, timerKey, timerValue),
		"s": listOf(&s.Subs, subKey, subValue),
		"t": listOf(&s.Tokens, tokenKey, tokenValue),
	}
}

// whole is the list of the one row that each state has.
func whole(s *api.State) list {
	fields := []field{count(&s.Pos), count(&s.Done), count(&s.Made)}
	return list{
		may:  always,
		rows: func(tell func(k, v string) bool) { tell("", written(fields...)) },
		take: func(_, v string) { taken(v, fields...) },
	}
}

func listOf[T any](at *[]T, keyOf, valueOf func(x *T) []field) list {
	return list{
		may: func() bool {
			for i := range *at {
				if x := &(*at)[i]; !mayAll(keyOf(x)...) || !mayAll(valueOf(x)...) {
					return false
				}
			}
			return true
		},
		rows: func(tell func(k, v string) bool) {
			for i := range *at {
				if x := &(*at)[i]; !tell(written(keyOf(x)...), written(valueOf(x)...)) {
					return
				}
			}
		},
		take: func(k, v string) {
			var x T
			taken(k, keyOf(&x)...)
			taken(v, valueOf(&x)...)
			*at = append(*at, x)
		},
	}
}
