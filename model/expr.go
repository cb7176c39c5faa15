package model

import (
	"slices"

	"gesso/api"
)

// reckon answers the step that reckons an expression, and pushes its value.
func (s scope) reckon(n api.Node, then step) step {
	switch n.Kind {
	case api.NNumber:
		return pushed(value{isNumber, n.Num}, then)
	case api.NNil:
		return pushed(value{}, then)
	case api.NSelf:
		return func(p *process) {
			p.push(p.here.self)
			then(p)
		}
	case api.NName:
		return s.name(n.Text, then)
	case api.NGate:
		return made(nil, then)
	case api.NNew:
		return made(named(s.classes, n.Text), then)
	case api.NCall:
		call := func(p *process) bool { return p.call(n.Text, len(n.Kids)-1) }
		return s.reckonAll(n.Kids, mark(call, then))
	}
	return s.reckonAll(n.Kids, combined(n.Kind, len(n.Kids), then))
}

// reckonAll answers the step that reckons those expressions, from the left.
func (s scope) reckonAll(nodes []api.Node, then step) step {
	for _, n := range slices.Backward(nodes) {
		then = s.reckon(n, then)
	}
	return then
}

func pushed(v value, then step) step {
	return func(p *process) {
		p.push(v)
		then(p)
	}
}

// made answers the step that makes a thing of class c, or a gate, if it is nil.
func made(c *class, then step) step {
	return mark(func(p *process) bool {
		p.push(p.add(c.fresh()))
		return true
	}, then)
}

// combined answers the step that takes so many values, and pushes what comes of
// them by that kind of expression.
func combined(kind, many int, then step) step {
	return func(p *process) {
		v, is := reckoned(kind, p.take(many))
		if !is {
			p.stop(ending(api.Fell))
			return
		}
		p.push(v)
		then(p)
	}
}

func (s scope) name(name string, then step) step {
	if i := s.local(name); i >= 0 {
		return func(p *process) {
			p.push(p.here.locals[i])
			then(p)
		}
	}
	i := s.slot(name)
	return mark(func(p *process) bool { return p.get(i) }, then)
}
