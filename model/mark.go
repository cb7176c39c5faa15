package model

import (
	"slices"

	"gesso/api"
)

// mark answers the step that stops ahead of a mark. When the process is picked,
// does is done, with what comes behind it being next already; it answers
// whether all is well, else the mark falls.
func mark(does func(*process) bool, then step) step {
	picked := func(p *process) {
		p.next = then
		if !does(p) {
			p.end(api.Fell)
		}
	}
	return func(p *process) { p.stop(picked) }
}

// end ends the run, at a mark.
func (p *process) end(status int) { p.next, p.trace.Status = nil, status }

// ending answers a mark that does nothing else.
func ending(status int) step { return func(p *process) { p.end(status) } }

func (p *process) print() bool {
	p.trace.Prints = append(p.trace.Prints, p.shown(p.pop()))
	return true
}

func (p *process) signal() bool { return p.turn(1) }

func (p *process) wait() bool { return p.turn(-1) }

// turn makes the count of a gate so much more.
func (p *process) turn(more int) bool {
	g := p.gate(p.pop())
	if g == nil {
		return false
	}
	g.count += more
	return true
}

// swap lets two things change places, so that all who name the one by its
// number come to the other one from now on.
func (p *process) swap() bool {
	both := p.take(2)
	one, other := p.thing(both[0]), p.thing(both[1])
	if one == nil || other == nil {
		return false
	}
	*one, *other = *other, *one
	return true
}

// slot answers that slot of what self is by now; nil, if it has none such.
func (p *process) slot(number int) *value {
	slots := p.thing(p.here.self).slots
	if number >= len(slots) {
		return nil
	}
	return &slots[number]
}

func (p *process) get(number int) bool {
	slot := p.slot(number)
	if slot == nil {
		return false
	}
	p.push(*slot)
	return true
}

func (p *process) put(number int) bool {
	slot := p.slot(number)
	if slot == nil {
		return false
	}
	*slot = p.pop()
	return true
}

// fork begins a process more, with all that so many locals are here now.
func (p *process) fork(does step, many int) bool {
	if len(p.processes) == api.MaxProcs {
		return false
	}
	p.begin(frame{self: p.here.self, locals: slices.Clone(p.here.locals[:many])}, does)
	return true
}

// call goes on with the method of that name; what is next comes behind it.
func (p *process) call(name string, many int) bool {
	exprs := slices.Clone(p.take(many))
	self := p.pop()
	t := p.thing(self)
	if t == nil || p.calls == api.MaxCalls {
		return false
	}
	m := t.class.method(name, many)
	if m == nil {
		return false
	}
	p.calls++
	p.here = &frame{self: self, locals: exprs, caller: p.here, back: p.next}
	p.next = m.does
	return true
}

// leave ends the call, whose value is on top.
func (p *process) leave() {
	p.calls--
	p.next, p.here = p.here.back, p.here.caller
}
