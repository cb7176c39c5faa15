package reach

import (
	"slices"

	"gesso/api"
	"gesso/heap"
)

// side is one of two heaps that are held against each other.
type side struct {
	heap.View
	given map[int]int // by each thing that has been come to, the other side's
}

func sideOf(v heap.View) side { return side{View: v, given: map[int]int{}} }

// kept answers o; nil if it is of a thing that has not been come to.
func (s side) kept(o int) int {
	if _, come := s.given[o]; !come && s.Has(o) {
		return 0
	}
	return o
}

// pairing gives things of one heap to those of another. Roots, classes and
// slots of Plain leave no choice of who is given to whom, and all that is
// reached is come to by them: so no second way need be tried.
type pairing struct {
	one, other side
	pairs      []pair // in the order in which they were given
}

type pair struct{ one, other int }

// hold tells whether what is reached from roots and from others is alike.
func (p *pairing) hold(roots, others []int) bool {
	if !slices.EqualFunc(roots, others, p.alike) {
		return false
	}
	// The row of pairs grows while it is gone along.
	for next := 0; next < len(p.pairs); next++ {
		x, y := p.things(p.pairs[next])
		if !p.headsAlike(x, y) || x.Form != api.Weak && !p.slotsAlike(x, y) {
			return false
		}
	}
	// What a slot of Weak counts as is known only when all has been reached.
	for _, both := range p.pairs {
		x, y := p.things(both)
		if x.Form == api.Weak && !p.slotsAlike(x, y) {
			return false
		}
	}
	return true
}

func (p *pairing) things(both pair) (api.Thing, api.Thing) {
	return p.one.Look(both.one), p.other.Look(both.other)
}

// headsAlike tells whether x and y are alike in all but their slots.
func (p *pairing) headsAlike(x, y api.Thing) bool {
	return x.Hash == y.Hash && x.Form == y.Form && p.alike(x.Class, y.Class)
}

// slotsAlike tells whether x and y, of one form, have as many slots, and those
// are alike.
func (p *pairing) slotsAlike(x, y api.Thing) bool {
	return slices.EqualFunc(x.Slots, y.Slots, p.way(x.Form))
}

// way answers how the slots of two things of that form are held against each
// other.
func (p *pairing) way(form int) func(x, y int) bool {
	switch form {
	case api.Bytes:
		return p.same
	case api.Weak:
		return p.weaklyAlike
	}
	return p.alike
}

// same tells whether two bytes are. Bytes name nobody, also where a thing
// stands at such a place.
func (p *pairing) same(x, y int) bool { return x == y }

// weaklyAlike is alike, where nobody counts as nil who is not reached.
func (p *pairing) weaklyAlike(x, y int) bool {
	return p.alike(p.one.kept(x), p.other.kept(y))
}

// alike tells whether two references are the same small one, are both nil, or
// are of things that are given to each other; two that have not been given to
// anyone are from now on.
func (p *pairing) alike(x, y int) bool {
	if !p.one.Has(x) || !p.other.Has(y) {
		return x == y
	}
	to, xGiven := p.one.given[x]
	from, yGiven := p.other.given[y]
	if xGiven || yGiven {
		return to == y && from == x
	}
	p.one.given[x], p.other.given[y] = y, x
	p.pairs = append(p.pairs, pair{x, y})
	return true
}
