package heap

import (
	"slices"

	"gesso/api"
)

// Takes answers how many words a thing takes that has so many slots.
func Takes(size int) int { return headWords + size }

// Words answers how many words there are.
func (v View) Words() int { return len(v.words) }

// Heap answers the heap as it is now, in memory of its own.
func (v View) Heap() api.Heap { return api.Heap{Words: slices.Clone(v.words)} }

// Add lays one thing more behind the others, as New does, and answers its
// reference; if it is refused (with api.ErrHeap, if the view is of no heap),
// nothing is changed. Who has copied the view may go on with one of both alone.
func (v *View) Add(class, form, size int) (int, api.Errno) {
	switch {
	case len(v.words) < firstPlace:
		return 0, api.ErrHeap
	case !v.isNilOrThing(class):
		return 0, api.ErrKind
	case !isForm(form) || !isSize(size):
		return 0, api.ErrRange
	case len(v.words)+Takes(size) > api.MaxWords || v.words[nextHashAt] > api.MaxHash:
		return 0, api.ErrFull
	}
	place := len(v.words)
	x := api.Thing{Class: class, Hash: v.words[nextHashAt], Form: form, Slots: make([]int, size)}
	v.words = append(v.words, Laid(x)...)
	v.words[nextHashAt]++
	v.begins[place] = size
	return 2 * place, api.OK
}

// Put fills the slot at, of the thing that o is the reference of, as the
// function Put does; if it is refused, nothing is changed.
func (v View) Put(o, at, what int) api.Errno {
	switch {
	case !v.Has(o):
		return api.ErrKind
	case at < 0 || at >= len(v.slots(o/2)):
		return api.ErrRange
	case !v.mayStand(v.form(o/2), what):
		return api.ErrForm
	}
	v.slots(o / 2)[at] = what
	return api.OK
}
