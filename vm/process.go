package vm

import (
	"gesso/api"
	"gesso/word"
)

// process is one of a run. Its stack has, of each list that it has begun and
// not ended, self, the locals, and what is being reckoned.
type process struct {
	*machine
	frame           // of the list that it does
	callers []frame // of those that have called
	stack   []int   // none, when the process has ended
	rounds  int     // how many conditions of while have begun since its last mark
}

// frame is where a process is in a list.
type frame struct {
	list, at int // which one, and the order that is next
	base     int // where self lies on the stack; the locals lie behind it
}

// enter lets p do that list, whose self and first locals lie on top of the
// stack, from base on. The other locals are nil until they are made.
func (p *process) enter(list, base int) {
	p.frame = frame{list: list, base: base}
	for len(p.stack) < base+1+p.Locals[list] {
		p.push(nothing)
	}
}

// leave goes back to where the list was called, with the topmost value.
func (p *process) leave() {
	value := p.pop()
	p.stack = p.stack[:p.base]
	p.push(value)
	last := len(p.callers) - 1
	p.frame, p.callers = p.callers[last], p.callers[:last]
}

// HasEnded tells whether p has done its list. Until then self lies on the
// stack.
func (p *process) HasEnded() bool { return len(p.stack) == 0 }

// IsAble tells whether p, which has not ended, can do its mark.
func (p *process) IsAble() bool {
	if p.order().Op != api.OWait {
		return true
	}
	count, isGate := p.count(p.top(1)[0])
	return !isGate || count > 0
}

// order answers the order that is next.
func (p *process) order() api.Order { return p.Lists[p.list][p.at] }

// goOn does orders that nobody else sees, up to the next mark. Lists of methods
// don't come to their ends: they return.
func (p *process) goOn() {
	for p.at < len(p.Lists[p.list]) {
		o := p.order()
		p.at++
		if !p.alone(o) {
			p.at--
			return
		}
	}
	p.stack = nil
}

// pick does the mark that p stands at, and goes on to the next one, unless the
// run ends here.
func (p *process) pick() {
	p.rounds = 0
	o := p.order()
	p.at++
	p.Status = p.mark(o)
	if p.Status == 0 {
		p.goOn()
	}
}

func (p *process) self() int { return p.stack[p.base] }

// local answers where on the stack that local lies.
func (p *process) local(number int) int { return p.base + 1 + number }

func (p *process) push(o int) { p.stack = append(p.stack, o) }

func (p *process) pop() int {
	o := p.top(1)[0]
	p.drop(1)
	return o
}

// top answers the topmost of what is being reckoned, where it lies.
func (p *process) top(many int) []int { return p.stack[len(p.stack)-many:] }

func (p *process) drop(many int) { p.stack = p.stack[:len(p.stack)-many] }

// small answers the reference of n, which is a number that may be.
func small(n int) int {
	o, _ := word.Small(n)
	return o
}

// value answers the number that o is of, which is small.
func value(o int) int {
	n, _ := word.Value(o)
	return n
}
