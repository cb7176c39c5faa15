package vm

import (
	"strconv"

	"gesso/api"
	"gesso/heap"
	"gesso/model"
	"gesso/word"
)

// nothing is the reference that nil is.
const nothing = 0

// machine does the program that it embeds, and writes the trace.
type machine struct {
	api.Program
	api.Trace
	script    model.Script
	collects  [api.MaxMarks]bool // by the number of a pick, whether the heap is collected ahead of it
	room      int                // how many words the heap may have
	store     heap.View
	first     []int // the things of the classes, in their order, and then that of gates
	processes []*process
}

// note lets the heap be collected ahead of those picks. There are none below 0,
// and none behind the last step that can be.
func (m *machine) note(when []int) {
	for _, pick := range when {
		if 0 <= pick && pick < len(m.collects) {
			m.collects[pick] = true
		}
	}
}

// begin makes a process more, that does that list with self and those locals,
// and lets it go to its first mark.
func (m *machine) begin(list int, held ...int) {
	p := &process{machine: m, stack: held}
	m.processes = append(m.processes, p)
	p.enter(list, 0)
	p.goOn()
}

// step makes a pick, or ends the run.
func (m *machine) step() {
	p, status := model.Next(m.processes, m.Steps, &m.script)
	if status != 0 {
		m.Status = status
		return
	}
	if m.collects[m.Steps] {
		m.collect()
	}
	m.Steps++
	p.pick()
}

// sort answers what o is: the number of a thing's class, or api.SortGate,
// api.SortNil, api.SortNumber. The things of gates and of classes know it.
func (m *machine) sort(o int) int {
	switch word.Kind(o) {
	case api.KindSmall:
		return api.SortNumber
	case api.KindNil:
		return api.SortNil
	}
	class := m.store.Look(o).Class
	return value(m.store.Look(class).Slots[0])
}

// isThing tells whether o is of a thing, be it of a class or a gate.
func (m *machine) isThing(o int) bool { return m.sort(o) >= api.SortGate }

// count answers the count of the gate that o is of; false, if it is none.
func (m *machine) count(o int) (int, bool) {
	if m.sort(o) != api.SortGate {
		return 0, false
	}
	return value(m.store.Look(o).Slots[0]), true
}

// method answers the list of the first method of that name, with so many names
// in parentheses, of that class, of the one it stands on, and so on; false, if
// there is none. What is no class has none.
func (m *machine) method(class int, name string, many int) (int, bool) {
	for ; class >= 0; class = m.Classes[class].Over {
		for _, own := range m.Classes[class].Methods {
			if own.Name == name && own.Args == many {
				return own.Code, true
			}
		}
	}
	return 0, false
}

// shown answers what o is of as it is printed.
func (m *machine) shown(o int) string {
	switch sort := m.sort(o); sort {
	case api.SortNumber:
		return strconv.Itoa(value(o))
	case api.SortNil:
		return "nil"
	case api.SortGate:
		return "gate"
	default:
		return m.Classes[sort].Name
	}
}
