package vm

import (
	"slices"
	"strconv"

	"gesso/api"
	"gesso/code"
)

// object is a thing of a class, or a gate, whose class is -1.
type object struct {
	class, hash int
	slots       []any
	count       int
}

// world is a run said over again, in another way than the program's: a value is
// an int, nil or a pointer to an object, each call has lists of its own, a swap
// goes through all who hold something, and what the heap is in words is asked
// only when it is shown.
type world struct {
	program api.Program
	actors  []*actor
	stand   []*object // those that stand on the heap, in order
	when    []int
	room    int
	trace   api.Trace
}

// actor is a process. It has ended, when it has no calls.
type actor struct {
	calls  []*call // main's or a fork's, then those of methods
	rounds int
}

// call is where a list is done.
type call struct {
	list, at int
	self     any
	locals   []any
	held     []any // what is being reckoned
}

// saidOver answers the run of a text that was checked, up to so many picks.
func saidOver(text string, script, when []int, room, picks int) *world {
	p, _ := code.Make(text)
	w := &world{program: p, when: when, room: room}
	w.enter(&call{locals: make([]any, p.Locals[0])})
	for w.trace.Status == 0 && w.trace.Steps < picks {
		script = w.step(script)
	}
	return w
}

// step makes a pick, or tells how the run has ended.
func (w *world) step(script []int) []int {
	var able []*actor
	ended := true
	for _, a := range w.actors {
		ended = ended && len(a.calls) == 0
		if len(a.calls) > 0 && w.isAble(a) {
			able = append(able, a)
		}
	}
	switch {
	case ended:
		w.trace.Status = api.Done
	case len(able) == 0:
		w.trace.Status = api.Stuck
	case w.trace.Steps == maxMarks:
		w.trace.Status = api.Out
	default:
		which := 0
		if len(able) > 1 && len(script) > 0 {
			which, script = (script[0]%len(able)+len(able))%len(able), script[1:]
		}
		if slices.Contains(w.when, w.trace.Steps) {
			w.sweep()
		}
		w.trace.Steps++
		w.trace.Status = w.mark(able[which])
		able[which].rounds = 0
		if w.trace.Status == 0 {
			w.goOn(able[which])
		}
	}
	return script
}

func (w *world) next(a *actor) api.Order {
	c := a.here()
	return w.program.Lists[c.list][c.at]
}

func (w *world) isAble(a *actor) bool {
	if w.next(a).Op != api.OWait {
		return true
	}
	g, is := a.here().held[len(a.here().held)-1].(*object)
	return !is || g.class >= 0 || g.count > 0
}

func (w *world) enter(c *call) {
	a := &actor{calls: []*call{c}}
	w.actors = append(w.actors, a)
	w.goOn(a)
}

func (a *actor) here() *call { return a.calls[len(a.calls)-1] }

// take takes so many values.
func (c *call) take(many int) []any {
	rest := len(c.held) - many
	taken := slices.Clone(c.held[rest:])
	c.held = c.held[:rest]
	return taken
}

// goOn goes to the next mark.
func (w *world) goOn(a *actor) {
	for {
		c := a.here()
		if c.at == len(w.program.Lists[c.list]) {
			a.calls = nil
			return
		}
		if !w.quiet(a, c, w.next(a)) {
			return
		}
	}
}

// quiet does an order that nobody else sees; false, if a has to stop at it.
func (w *world) quiet(a *actor, c *call, o api.Order) bool {
	to := c.at + 1
	switch o.Op {
	case api.OPush:
		c.held = append(c.held, o.A)
	case api.ONil:
		c.held = append(c.held, nil)
	case api.OSelf:
		c.held = append(c.held, c.self)
	case api.OLoad:
		c.held = append(c.held, c.locals[o.A])
	case api.OStore:
		c.locals[o.A] = c.take(1)[0]
	case api.ODrop:
		c.take(1)
	case api.OJump:
		to = o.A
	case api.OReturn:
		a.calls = a.calls[:len(a.calls)-1]
		a.here().held = append(a.here().held, c.take(1)[0])
	case api.ORound:
		if a.rounds++; a.rounds == maxRounds+1 {
			return false
		}
	case api.OZero:
		n, is := c.held[len(c.held)-1].(int)
		if !is {
			return false
		}
		c.take(1)
		if n == 0 {
			to = o.A
		}
	case api.OAdd, api.OSub, api.OMul, api.OLess, api.OSame, api.ONeg, api.ONot:
		many := 2
		if o.Op == api.ONeg || o.Op == api.ONot {
			many = 1
		}
		v, is := combined(o.Op, c.held[len(c.held)-many:])
		if !is {
			return false
		}
		c.take(many)
		c.held = append(c.held, v)
	default:
		return false
	}
	c.at = to
	return true
}

func combined(op int, all []any) (any, bool) {
	truth := func(is bool) any { return map[bool]int{true: 1}[is] }
	if op == api.OSame {
		return truth(all[0] == all[1]), true
	}
	a, is := all[0].(int)
	b, are := all[len(all)-1].(int)
	if !is || !are {
		return nil, false
	}
	n := 0
	switch op {
	case api.OLess:
		return truth(a < b), true
	case api.ONot:
		return truth(a == 0), true
	case api.ONeg:
		n = -a
	case api.OAdd:
		n = a + b
	case api.OSub:
		n = a - b
	case api.OMul:
		n = a * b
	}
	return n, -1<<30 <= n && n < 1<<30
}

// mark does what others see, and answers how the run ends by it.
func (w *world) mark(a *actor) int {
	c, o := a.here(), w.next(a)
	switch o.Op {
	case api.ORound:
		return api.Endless
	case api.ONew:
		return w.makes(c, o.A, w.program.Classes[o.A].Slots)
	case api.OGate:
		return w.makes(c, -1, 0)
	case api.OFork:
		if len(w.actors) == maxProcs {
			return api.Fell
		}
		own := &call{list: o.A, self: c.self, locals: make([]any, w.program.Locals[o.A])}
		copy(own.locals, c.locals)
		c.at++
		w.enter(own)
		return 0
	case api.OCall:
		return w.calls(a, c, w.program.Names[o.A], o.B)
	}
	if !w.effect(c, o) {
		return api.Fell
	}
	c.at++
	return 0
}

func (w *world) calls(a *actor, c *call, name string, many int) int {
	exprs := c.held[len(c.held)-many:]
	self, is := c.held[len(c.held)-many-1].(*object)
	if !is || len(a.calls) == maxCalls+1 {
		return api.Fell
	}
	for class := self.class; class >= 0; class = w.program.Classes[class].Over {
		for _, m := range w.program.Classes[class].Methods {
			if m.Name == name && m.Args == many {
				own := &call{list: m.Code, self: self, locals: make([]any, w.program.Locals[m.Code])}
				copy(own.locals, exprs)
				c.take(many + 1)
				c.at++
				a.calls = append(a.calls, own)
				return 0
			}
		}
	}
	return api.Fell
}

// effect does the other marks; false, if it falls.
func (w *world) effect(c *call, o api.Order) bool {
	top := func(many int) *object {
		x, _ := c.held[len(c.held)-many].(*object)
		return x
	}
	switch o.Op {
	case api.OPrint:
		w.trace.Prints = append(w.trace.Prints, w.said(c.take(1)[0]))
	case api.OGet, api.OPut:
		self := c.self.(*object)
		if o.A >= len(self.slots) {
			return false
		}
		if o.Op == api.OGet {
			c.held = append(c.held, self.slots[o.A])
		} else {
			self.slots[o.A] = c.take(1)[0]
		}
	case api.OWait, api.OSignal:
		g := top(1)
		if g == nil || g.class >= 0 {
			return false
		}
		c.take(1)
		g.count += map[int]int{api.OWait: -1, api.OSignal: 1}[o.Op]
	case api.OSwap:
		one, other := top(2), top(1)
		if one == nil || other == nil {
			return false
		}
		c.take(2)
		w.each(func(v *any) {
			switch *v {
			case one:
				*v = other
			case other:
				*v = one
			}
		})
	default:
		return false
	}
	return true
}

func (w *world) said(v any) string {
	switch x := v.(type) {
	case int:
		return strconv.Itoa(x)
	case *object:
		if x.class < 0 {
			return "gate"
		}
		return w.program.Classes[x.class].Name
	}
	return "nil"
}

// held goes through every value that an actor holds.
func (w *world) held(do func(v *any)) {
	for _, a := range w.actors {
		for _, c := range a.calls {
			do(&c.self)
			for i := range c.locals {
				do(&c.locals[i])
			}
			for i := range c.held {
				do(&c.held[i])
			}
		}
	}
}

// each goes through those, and through all slots.
func (w *world) each(do func(v *any)) {
	w.held(do)
	for _, o := range w.stand {
		for i := range o.slots {
			do(&o.slots[i])
		}
	}
}

// makes makes a thing, or a gate, if there is room.
func (w *world) makes(c *call, class, slots int) int {
	x := &object{class: class, hash: len(w.program.Classes) + 2 + w.trace.Made, slots: make([]any, slots)}
	if w.words()+x.words() > w.room {
		w.sweep()
	}
	if w.words()+x.words() > w.room {
		return api.Full
	}
	w.trace.Made++
	w.stand = append(w.stand, x)
	c.held = append(c.held, x)
	c.at++
	return 0
}

func (x *object) words() int {
	if x.class < 0 {
		return 4
	}
	return 3 + len(x.slots)
}

func (w *world) words() int {
	all := 6 + 4*len(w.program.Classes)
	for _, x := range w.stand {
		all += x.words()
	}
	return all
}

// sweep lets go all that is not come to.
func (w *world) sweep() {
	come := map[*object]bool{}
	var visit func(v *any)
	visit = func(v *any) {
		x, is := (*v).(*object)
		if !is || come[x] {
			return
		}
		come[x] = true
		for i := range x.slots {
			visit(&x.slots[i])
		}
	}
	w.held(visit)
	w.stand = slices.DeleteFunc(w.stand, func(x *object) bool { return !come[x] })
}

// heap answers the words of the heap, and what the references of all that is
// held are, each once.
func (w *world) heap() (words, held []int) {
	many := len(w.program.Classes)
	words = []int{0, many + 2 + w.trace.Made}
	for i := range many {
		words = append(words, 0, i+1, 4, 2*i+1)
	}
	words = append(words, 0, many+1, 4, -1)
	at := map[*object]int{}
	place := len(words)
	for _, x := range w.stand {
		at[x] = place
		place += x.words()
	}
	reference := func(v any) int {
		switch x := v.(type) {
		case int:
			return 2*x + 1
		case *object:
			return 2 * at[x]
		}
		return 0
	}
	for _, x := range w.stand {
		if x.class < 0 {
			words = append(words, 4+8*many, x.hash, 4, 2*x.count+1)
			continue
		}
		words = append(words, 4+8*x.class, x.hash, 4*len(x.slots))
		for _, v := range x.slots {
			words = append(words, reference(v))
		}
	}
	w.held(func(v *any) { held = append(held, reference(*v)) })
	slices.Sort(held)
	return words, slices.Compact(held)
}
