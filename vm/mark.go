package vm

import (
	"slices"

	"gesso/api"
)

// mark does an order that others see, and answers how the run ends by it; 0, if
// it goes on. A mark that falls leaves all as it is.
func (p *process) mark(o api.Order) int {
	switch o.Op {
	case api.ONew:
		return p.create(o.A, make([]int, p.Classes[o.A].Slots)...)
	case api.OGate:
		return p.create(len(p.Classes), small(0))
	case api.ORound:
		return api.Endless
	}
	if !p.does(o) {
		return api.Fell
	}
	return 0
}

// does does the other marks, and answers whether all is well. Where p has
// stopped at what is none, that falls by itself.
func (p *process) does(o api.Order) bool {
	switch o.Op {
	case api.OGet:
		return p.get(o.A)
	case api.OPut:
		return p.put(o.A)
	case api.OCall:
		return p.call(p.Names[o.A], o.B)
	case api.OPrint:
		p.Prints = append(p.Prints, p.shown(p.pop()))
		return true
	case api.OWait:
		return p.turn(-1)
	case api.OSignal:
		return p.turn(1)
	case api.OSwap:
		return p.exchange()
	case api.OFork:
		return p.fork(o.A)
	}
	return false
}

// create makes a thing with those slots, of the class that has that number among
// the first things; the run ends, if there is no room for it.
func (p *process) create(class int, slots ...int) int {
	if !p.hasRoom(len(slots)) {
		return api.Full
	}
	p.push(p.lay(p.first[class], slots...))
	p.Made++
	return 0
}

// hasSlot tells whether self is by now a thing of a class that has that slot.
func (p *process) hasSlot(number int) bool {
	class := p.sort(p.self())
	return class >= 0 && number < p.Classes[class].Slots
}

func (p *process) get(number int) bool {
	if !p.hasSlot(number) {
		return false
	}
	p.push(p.store.Look(p.self()).Slots[number])
	return true
}

func (p *process) put(number int) bool {
	if !p.hasSlot(number) {
		return false
	}
	p.store.Put(p.self(), number, p.pop())
	return true
}

// call begins the method of that name. What is called and the exprs lie on the
// stack as self and its first locals.
func (p *process) call(name string, many int) bool {
	base := len(p.stack) - many - 1
	list, is := p.method(p.sort(p.stack[base]), name, many)
	if !is || len(p.callers) == api.MaxCalls {
		return false
	}
	p.callers = append(p.callers, p.frame)
	p.enter(list, base)
	return true
}

// turn makes the count of a gate so much more.
func (p *process) turn(more int) bool {
	gate := p.top(1)[0]
	count, is := p.count(gate)
	if !is {
		return false
	}
	p.drop(1)
	p.store.Put(gate, 0, small(count+more))
	return true
}

func (p *process) exchange() bool {
	one, other := p.top(2)[0], p.top(2)[1]
	if !p.isThing(one) || !p.isThing(other) {
		return false
	}
	p.drop(2)
	if one != other {
		p.swap(one, other)
	}
	return true
}

// fork begins a process more, with self and all locals that are here now. Those
// of blocks that have ended may come with them: nobody asks for them.
func (p *process) fork(list int) bool {
	if len(p.processes) == api.MaxProcs {
		return false
	}
	many := min(p.Locals[p.list], p.Locals[list])
	p.begin(list, slices.Clone(p.stack[p.base:p.local(many)])...)
	return true
}
