package fold

import (
	"slices"
)

// A list may have several elements of one key, and keys that don't rise: nothing
// here leans on their order.

// of tells by a closure which elements are meant: those of a key.
func of[T any, K comparable](key func(x T) K, want K) func(x T) bool {
	return func(x T) bool { return key(x) == want }
}

func first[T any](l []T, is func(x T) bool) (T, bool) {
	if i := slices.IndexFunc(l, is); i >= 0 {
		return l[i], true
	}
	var none T
	return none, false
}

// put looks for the same key through the whole list ahead of looking for one that
// is above, as that may stand earlier where keys don't rise.
func put[T any, K comparable](l []T, x T, key func(x T) K, below func(a, b K) bool) []T {
	mine := key(x)
	if i := slices.IndexFunc(l, of(key, mine)); i >= 0 {
		l[i] = x
		return l
	}
	if i := slices.IndexFunc(l, func(y T) bool { return below(mine, key(y)) }); i >= 0 {
		return slices.Insert(l, i, x)
	}
	return append(l, x)
}

func takeAway[T any](l []T, is func(x T) bool) []T {
	return slices.DeleteFunc(l, is)
}

// change is of the first one alone; of none, it is nothing.
func change[T any](l []T, is func(x T) bool, by func(x *T)) {
	if i := slices.IndexFunc(l, is); i >= 0 {
		by(&l[i])
	}
}

// fresh is a list in new memory. (The library's Clone would hold on to the memory
// of one that is empty.)
func fresh[T any](l []T) []T {
	return append([]T(nil), l...)
}

// freshWithin is fresh for elements that have lists of their own, which within copies.
func freshWithin[T any](l []T, within func(x *T)) []T {
	l = fresh(l)
	for i := range l {
		within(&l[i])
	}
	return l
}
