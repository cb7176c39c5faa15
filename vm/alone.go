package vm

import (
	"gesso/api"
	"gesso/word"
)

// alone does an order that nobody else sees. If it is a mark, or falls, or
// begins a condition too many, it answers false, and nothing is changed: so p
// stops ahead of it, and holds what it held.
func (p *process) alone(o api.Order) bool {
	switch o.Op {
	case api.OPush:
		p.push(small(o.A))
	case api.ONil:
		p.push(nothing)
	case api.OSelf:
		p.push(p.self())
	case api.OLoad:
		p.push(p.stack[p.local(o.A)])
	case api.OStore:
		p.stack[p.local(o.A)] = p.pop()
	case api.ODrop:
		p.drop(1)
	case api.OReturn:
		p.leave()
	case api.OJump:
		p.at = o.A
	case api.OZero:
		return p.zero(o.A)
	case api.ORound:
		return p.round()
	case api.OAdd, api.OSub, api.OMul, api.OLess, api.OSame:
		return p.reckon(o.Op, 2)
	case api.ONeg, api.ONot:
		return p.reckon(o.Op, 1)
	default:
		return false
	}
	return true
}

// zero goes on at that order, if the condition on top does not hold; it answers
// false, if that is no number.
func (p *process) zero(at int) bool {
	n, isNumber := word.Value(p.top(1)[0])
	if !isNumber {
		return false
	}
	p.drop(1)
	if n == 0 {
		p.at = at
	}
	return true
}

// round counts a condition of while; it answers false, if it is one too many.
func (p *process) round() bool {
	if p.rounds == api.MaxRounds {
		return false
	}
	p.rounds++
	return true
}

// reckon puts what comes of so many values in their place; it answers false, if
// that falls.
func (p *process) reckon(op, many int) bool {
	o, is := reckoned(op, p.top(many))
	if is {
		p.drop(many)
		p.push(o)
	}
	return is
}

// reckoned answers what comes of one or two values by that order; false, if it
// falls. Where there is one value alone, b is it again, and is not asked.
func reckoned(op int, all []int) (int, bool) {
	a, b := all[0], all[len(all)-1]
	switch op {
	case api.OAdd:
		return word.Add(a, b)
	case api.OSub:
		return word.Sub(a, b)
	case api.OMul:
		return word.Mul(a, b)
	case api.ONeg:
		return word.Sub(small(0), a)
	case api.OSame:
		return truth(a == b), true
	case api.OLess:
		is, areNumbers := word.Less(a, b)
		return truth(is), areNumbers
	}
	n, isNumber := word.Value(a) // ONot
	return truth(n == 0), isNumber
}

// truth answers the number that tells whether it is so.
func truth(is bool) int {
	if is {
		return small(1)
	}
	return small(0)
}
