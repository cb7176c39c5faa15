package model

import "gesso/api"

// do answers the step that does a statement. What comes behind a statement is
// left in next, not called: calls do not grow deep, however long a process goes
// on by itself.
func (s scope) do(n api.Node, then step) step {
	switch n.Kind {
	case api.NIf:
		return s.choose(n, then)
	case api.NWhile:
		return s.while(n, then)
	case api.NFork:
		does, many := s.block(n.Kids[0], nil), len(s.locals)
		return mark(func(p *process) bool { return p.fork(does, many) }, then)
	}
	return s.reckonAll(n.Kids, s.finish(n, then))
}

// finish answers the step that does a statement whose exprs are reckoned.
func (s scope) finish(n api.Node, then step) step {
	switch n.Kind {
	case api.NVar:
		return declared(len(s.locals), then)
	case api.NSet:
		return s.set(n.Text, then)
	case api.NReturn:
		return (*process).leave
	case api.NPrint:
		return mark((*process).print, then)
	case api.NWait:
		return waiting(then)
	case api.NSignal:
		return mark((*process).signal, then)
	case api.NSwap:
		return mark((*process).swap, then)
	}
	return func(p *process) { // NDo
		p.pop()
		p.next = then
	}
}

// declared answers the step that makes the topmost value a new local.
func declared(number int, then step) step {
	return func(p *process) {
		p.here.locals = append(p.here.locals[:number], p.pop())
		p.next = then
	}
}

func (s scope) set(name string, then step) step {
	if i := s.local(name); i >= 0 {
		return func(p *process) {
			p.here.locals[i] = p.pop()
			p.next = then
		}
	}
	i := s.slot(name)
	return mark(func(p *process) bool { return p.put(i) }, then)
}

func waiting(then step) step {
	stop := mark((*process).wait, then)
	return func(p *process) {
		p.waits = true
		stop(p)
	}
}

func (s scope) choose(n api.Node, then step) step {
	other := then
	if len(n.Kids) == 3 {
		other = s.block(n.Kids[2], then)
	}
	return s.reckon(n.Kids[0], chosen(s.block(n.Kids[1], then), other))
}

// chosen answers the step that goes on at one of two, by the topmost value.
func chosen(holds, not step) step {
	return func(p *process) {
		switch v := p.pop(); {
		case v.kind != isNumber:
			p.stop(ending(api.Fell))
		case v.num != 0:
			p.next = holds
		default:
			p.next = not
		}
	}
}

func (s scope) while(n api.Node, then step) step {
	var condition step
	round := func(p *process) {
		p.rounds++
		if p.rounds > api.MaxRounds {
			p.stop(ending(api.Endless))
			return
		}
		condition(p)
	}
	condition = s.reckon(n.Kids[0], chosen(s.block(n.Kids[1], round), then))
	return round
}
