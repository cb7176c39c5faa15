package sorts

import (
	"iter"
	"math/bits"

	"gesso/api"
)

// words are enough for all sorts: each class is a node of its own.
const words = (api.MaxNodes - api.SortNumber + 63) / 64

// set is one of sorts. Each has a bit, the least of them, api.SortNumber, the
// first one.
type set [words]uint64

// of answers the set of those sorts.
func of(sorts ...int) set {
	var s set
	for _, sort := range sorts {
		bit := sort - api.SortNumber
		s[bit/64] |= 1 << (bit % 64)
	}
	return s
}

func (s set) with(other set) set {
	for i := range s {
		s[i] |= other[i]
	}
	return s
}

func (s set) without(other set) set {
	for i := range s {
		s[i] &^= other[i]
	}
	return s
}

func (s set) isEmpty() bool { return s == set{} }

// meets tells whether both have a sort in common.
func (s set) meets(other set) bool { return s.without(other) != s }

// things answers those of its sorts that are of things: classes and gates.
func (s set) things() set { return s.without(of(api.SortNumber, api.SortNil)) }

// all goes through the sorts, rising.
func (s set) all() iter.Seq[int] {
	return func(yield func(sort int) bool) {
		for i, word := range s {
			for ; word != 0; word &= word - 1 {
				if !yield(64*i + bits.TrailingZeros64(word) + api.SortNumber) {
					return
				}
			}
		}
	}
}
