package vm

import (
	"slices"

	"gesso/api"
	"gesso/become"
	"gesso/heap"
	"gesso/sweep"
)

// layFirst begins the heap, with the things that others are of: room for them
// was asked for.
func (m *machine) layFirst() {
	m.see(api.Heap{Words: []int{0, 1}})
	for class := range m.Classes {
		m.first = append(m.first, m.lay(nothing, small(class)))
	}
	m.first = append(m.first, m.lay(nothing, small(api.SortGate)))
}

// see lets h be the heap. It may be: all that lays it knows how.
func (m *machine) see(h api.Heap) { m.store, _ = heap.See(h) }

// lay lays a thing of that class with those slots, for which there is room, and
// answers its reference.
func (m *machine) lay(class int, slots ...int) int {
	o, _ := m.store.Add(class, api.Plain, len(slots))
	for at, what := range slots {
		m.store.Put(o, at, what)
	}
	return o
}

// hasRoom tells whether there is room for a thing with so many slots. If there
// is none, the heap is collected first.
func (m *machine) hasRoom(size int) bool {
	fits := func() bool { return m.store.Words()+heap.Takes(size) <= m.room }
	if !fits() {
		m.collect()
	}
	return fits()
}

// roots answers all references that somebody holds. A process that has ended
// holds none.
func (m *machine) roots() []int {
	all := slices.Clone(m.first)
	for _, p := range m.processes {
		all = append(all, p.stack...)
	}
	return all
}

// collect lets go what nobody comes to.
func (m *machine) collect() {
	h, roots, _ := sweep.Collect(m.store.Heap(), m.roots())
	m.renew(h, roots)
}

// swap lets two things that are not the same become each other.
func (m *machine) swap(one, other int) {
	h, roots, _ := become.Two(m.store.Heap(), []int{one}, []int{other}, m.roots())
	m.renew(h, roots)
}

// renew lets h be the heap, and turns all references: roots are what they have
// become.
func (m *machine) renew(h api.Heap, roots []int) {
	turn := turning(m.roots(), roots)
	m.see(h)
	m.first = heap.TurnedAll(m.first, turn)
	for _, p := range m.processes {
		p.stack = heap.TurnedAll(p.stack, turn)
	}
}

// turning answers what becomes of each of those that were, if they are so now.
func turning(were, are []int) func(o int) int {
	become := map[int]int{}
	for i, o := range were {
		become[o] = are[i]
	}
	return func(o int) int { return become[o] }
}
