package model

import "strconv"

// thing is one of a class, or a gate. No value holds it: values hold the number
// that names it, so that two things change places for all at once.
type thing struct {
	class *class // nil: a gate
	slots []value
	count int
}

// fresh answers a new thing of class c, or a new gate, if c is nil.
func (c *class) fresh() thing {
	if c == nil {
		return thing{}
	}
	return thing{class: c, slots: make([]value, len(c.slots))}
}

// add makes t one of the run's things, and answers it as a value.
func (r *run) add(t thing) value {
	r.things = append(r.things, t)
	r.trace.Made++
	return value{isThing, len(r.things) - 1}
}

// thing answers the thing that v is; nil, if it is none.
func (r *run) thing(v value) *thing {
	if v.kind != isThing {
		return nil
	}
	return &r.things[v.num]
}

// gate answers the gate that v is; nil, if it is none.
func (r *run) gate(v value) *thing {
	if t := r.thing(v); t != nil && t.class == nil {
		return t
	}
	return nil
}

// shown answers v as it is printed.
func (r *run) shown(v value) string {
	switch t := r.thing(v); {
	case v.kind == isNumber:
		return strconv.Itoa(v.num)
	case t == nil:
		return "nil"
	case t.class == nil:
		return "gate"
	default:
		return t.class.name
	}
}
