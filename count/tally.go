package count

import (
	"gesso/heap"
	"gesso/reach"
)

// tally knows how many times each thing of a heap is named.
type tally struct {
	store  heap.View
	counts map[int]int // by the reference of each thing that is named
}

// tallyOf counts all that roots and the things of v give.
func tallyOf(v heap.View, roots []int) tally {
	t := tally{store: v, counts: map[int]int{}}
	give := func(o int) { t.counts[o]++ }
	t.each(roots, give)
	t.eachGiven(give)
	return t
}

// each does do with those of refs that are of things, also more than once.
func (t tally) each(refs []int, do func(o int)) {
	for _, o := range refs {
		if t.store.Has(o) {
			do(o)
		}
	}
}

// eachGiven does do with each reference that a thing gives, whoever that is.
func (t tally) eachGiven(do func(o int)) {
	for _, o := range t.store.Things() {
		t.each(t.leads(o), do)
	}
}

// leads answers what the thing gives that o is the reference of.
func (t tally) leads(o int) []int { return reach.Leads(t.store.Look(o)) }

// takeAway takes away what things give, so that what roots give is left.
func (t tally) takeAway() {
	t.eachGiven(func(o int) { t.counts[o]-- })
}

// giveBack gives back, when it has been taken away, what those give that are
// held: so all that they come to has something left, too.
func (t tally) giveBack() {
	held := t.all(func(count int) bool { return count > 0 })
	give := func(o int) {
		if t.counts[o] == 0 {
			held = append(held, o)
		}
		t.counts[o]++
	}
	// held is a row that grows while it is gone along, so that things that
	// lead on in one long row need no deep calls.
	for next := 0; next < len(held); next++ {
		t.each(t.leads(held[next]), give)
	}
}

// all answers the references of the things whose count is so, rising.
func (t tally) all(isSo func(count int) bool) []int {
	var found []int
	for _, o := range t.store.Things() {
		if isSo(t.counts[o]) {
			found = append(found, o)
		}
	}
	return found
}
