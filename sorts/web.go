package sorts

import "slices"

// web is sets that are numbered, and what is to hold of them. They only ever
// grow, by what a rule asks for: so they are the least ones of which all holds.
type web struct {
	sets  []set
	rules [][]func() // of each set a row: they hold of it when they are done
	grown []int      // the sets whose rules are to be done again
	kin   []set      // sorts that are swapped for each other; no two have one in common
}

// fresh adds so many empty sets, and answers the number of the first one.
func (w *web) fresh(many int) int {
	first := len(w.sets)
	w.sets = append(w.sets, make([]set, many)...)
	w.rules = append(w.rules, make([][]func(), many)...)
	return first
}

// give lets that set have those sorts, too.
func (w *web) give(number int, sorts set) {
	more := sorts.without(w.sets[number])
	if more.isEmpty() {
		return
	}
	for _, all := range w.kin {
		if all.meets(more) {
			more = more.with(all)
		}
	}
	w.sets[number] = w.sets[number].with(more)
	w.grown = append(w.grown, number)
}

// whenever lets a rule hold of that set, now and whenever it has grown.
func (w *web) whenever(number int, rule func()) {
	w.rules[number] = append(w.rules[number], rule)
	rule()
}

// flow lets a set have all that another one has.
func (w *web) flow(from, to int) {
	w.whenever(from, func() { w.give(to, w.sets[from]) })
}

// each does something once for each sort that a set has.
func (w *web) each(number int, do func(sort int)) {
	var done set
	w.whenever(number, func() {
		more := w.sets[number].without(done)
		done = done.with(more)
		for sort := range more.all() {
			do(sort)
		}
	})
}

// swap lets all things that the one set has be swapped for all that the other
// one has. What is no thing is swapped for nothing.
func (w *web) swap(one, other int) {
	rule := func() {
		a, b := w.sets[one].things(), w.sets[other].things()
		// Each of a goes with each of b, and so all go with all.
		if !a.isEmpty() && !b.isEmpty() {
			w.join(a.with(b))
		}
	}
	w.whenever(one, rule)
	w.whenever(other, rule)
}

// join lets each set that has one of those sorts have all of them. What they are
// swapped for already is among them: no set has the one without the other.
func (w *web) join(sorts set) {
	if slices.Contains(w.kin, sorts) {
		return
	}
	w.kin = append(slices.DeleteFunc(w.kin, sorts.meets), sorts)
	for number, has := range w.sets {
		if has.meets(sorts) {
			w.give(number, sorts)
		}
	}
}

// settle does rules until all of them hold.
func (w *web) settle() {
	for len(w.grown) > 0 {
		last := len(w.grown) - 1
		number := w.grown[last]
		w.grown = w.grown[:last]
		// Those that come to the row meanwhile are done as they come.
		for _, rule := range w.rules[number] {
			rule()
		}
	}
}
