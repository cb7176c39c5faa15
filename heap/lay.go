package heap

import (
	"slices"

	"gesso/api"
)

// Front answers the words that stand ahead of all things, in memory of their
// own; none if the view is of no heap.
func (v View) Front() []int {
	return slices.Clone(v.words[:min(firstPlace, len(v.words))])
}

// Room answers how many words the thing takes that o is the reference of; 0 if
// there is none.
func (v View) Room(o int) int {
	if !v.Has(o) {
		return 0
	}
	return Takes(v.begins[o/2])
}

// Laid answers the words of x, as they stand on a heap.
func Laid(x api.Thing) []int {
	words := []int{x.Class, x.Hash, len(x.Slots)<<formBits | x.Form}
	return append(words, x.Slots...)
}

// Turned answers x, in memory of its own, where its class and its slots are
// what turn makes of them. Slots of api.Bytes stay, since they are no
// references.
func Turned(x api.Thing, turn func(o int) int) api.Thing {
	x.Class = turn(x.Class)
	if x.Form == api.Bytes {
		x.Slots = slices.Clone(x.Slots)
	} else {
		x.Slots = TurnedAll(x.Slots, turn)
	}
	return x
}

// TurnedAll answers, in memory of its own, what turn makes of each of refs.
func TurnedAll(refs []int, turn func(o int) int) []int {
	out := make([]int, len(refs))
	for i, o := range refs {
		out[i] = turn(o)
	}
	return out
}

// Relaid answers the heap of those things of v alone, one behind the other, as
// turn makes each of them. What turn answers must fit where they stand then.
func (v View) Relaid(things []int, turn func(o int) int) api.Heap {
	words := v.Front()
	for _, o := range things {
		words = append(words, Laid(Turned(v.Look(o), turn))...)
	}
	return api.Heap{Words: words}
}
