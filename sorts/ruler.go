package sorts

import (
	"slices"

	"gesso/api"
)

// ruler goes along the nodes of a program that was checked, from the left, and
// lays what is to hold. The set of a node has the node's number; that of what
// is no expression stays empty.
type ruler struct {
	web
	classes []*class
	next    int           // the number of the node that comes next
	asked   []func() bool // a program is safe, if all of them answer true
	calls   [][]int       // of main's block, then of each method by its number: those that are found there
	place
}

// place is where a ruler is: what names are of there.
type place struct {
	slots  []string // in a method: all of the class in which it stands
	method *method
	locals []local // those of the innermost block last
}

// local is one that is there.
type local struct {
	name string
	set  int
}

func (r *ruler) program(n api.Node) {
	last := len(n.Kids) - 1
	classes, main := n.Kids[:last], n.Kids[last]
	r.fresh(countOf(n))
	r.calls = [][]int{nil}
	for _, class := range classes {
		r.class(class)
	}
	// Only now: any class may be named, and any method called, anywhere.
	r.enter()
	for i, class := range classes {
		r.methods(class, r.classes[i])
	}
	r.walk(main)
}

// countOf answers how many nodes n has, itself being one.
func countOf(n api.Node) int {
	many := 1
	for _, kid := range n.Kids {
		many += countOf(kid)
	}
	return many
}

// enter answers the number of the node that comes next, and goes into it.
func (r *ruler) enter() int {
	r.next++
	return r.next - 1
}

// methods goes along the node of that class. The name of the one that it stands
// on is no expression.
func (r *ruler) methods(n api.Node, c *class) {
	r.enter()
	own := c.methods
	for _, kid := range n.Kids {
		r.enter()
		if kid.Kind == api.NMethod {
			r.place = place{slots: c.slots, method: own[0]}
			r.body(kid)
			own = own[1:]
		}
	}
	r.place = place{}
}

// body goes along what is in a method.
func (r *ruler) body(n api.Node) {
	for i, arg := range n.Kids[:n.Num] {
		r.enter()
		r.locals = append(r.locals, local{arg.Text, r.method.names + i})
	}
	r.walk(n.Kids[n.Num])
}

// walk goes along n, which is a block, a statement or an expression, and answers
// its number.
func (r *ruler) walk(n api.Node) int {
	at := r.enter()
	around := len(r.locals)
	var kids []int
	for _, kid := range n.Kids {
		kids = append(kids, r.walk(kid))
	}
	if n.Kind == api.NBlock {
		r.locals = r.locals[:around]
	}
	r.rule(n, at, kids)
	r.ask(n, kids)
	return at
}

// rule lays what is to hold by n, which has that number, and whose kids have
// those.
func (r *ruler) rule(n api.Node, at int, kids []int) {
	switch n.Kind {
	case api.NNumber, api.NAdd, api.NSub, api.NMul, api.NNeg, api.NNot, api.NLess, api.NSame:
		r.give(at, of(api.SortNumber))
	case api.NNil:
		r.give(at, of(api.SortNil))
	case api.NGate:
		r.give(at, of(api.SortGate))
	case api.NNew:
		r.give(at, of(r.classOf(n.Text)))
	case api.NSelf:
		r.flow(r.method.self, at)
	case api.NName:
		r.name(n.Text, at)
	case api.NVar:
		r.locals = append(r.locals, local{n.Text, r.fresh(1)})
		r.set(n.Text, kids[0])
	case api.NSet:
		r.set(n.Text, kids[0])
	case api.NReturn:
		r.flow(kids[0], r.method.answer)
	case api.NCall:
		r.call(n.Text, at, kids[0], kids[1:])
	case api.NSwap:
		r.swap(kids[0], kids[1])
	}
}

// ask lays what is asked of a program that is safe, by n, whose kids have those
// numbers.
func (r *ruler) ask(n api.Node, kids []int) {
	switch n.Kind {
	case api.NCall:
		r.asked = append(r.asked, func() bool {
			for sort := range r.sets[kids[0]].all() {
				if r.find(sort, n.Text, len(kids)-1) == nil {
					return false
				}
			}
			return true
		})
	case api.NWait, api.NSignal:
		r.asked = append(r.asked, func() bool { return r.sets[kids[0]].without(of(api.SortGate)).isEmpty() })
	case api.NSwap:
		r.asked = append(r.asked, func() bool {
			both := r.sets[kids[0]].with(r.sets[kids[1]])
			return both.things() == both
		})
	}
}

// caller answers the number of the method around, 0 in main's block.
func (p place) caller() int {
	if p.method == nil {
		return 0
	}
	return p.method.number
}

// local answers the set of the innermost local of that name; false, if there is
// none.
func (p place) local(name string) (int, bool) {
	for _, one := range slices.Backward(p.locals) {
		if one.name == name {
			return one.set, true
		}
	}
	return 0, false
}

// name lets what has that number have what the local, or the slot, has.
func (r *ruler) name(name string, at int) {
	if from, is := r.local(name); is {
		r.flow(from, at)
		return
	}
	r.eachSlot(name, func(slot int) { r.flow(slot, at) })
}

// set lets the local, or the slot, have what that expr has.
func (r *ruler) set(name string, expr int) {
	if to, is := r.local(name); is {
		r.flow(expr, to)
		return
	}
	r.eachSlot(name, func(slot int) { r.flow(expr, slot) })
}

// eachSlot does something for the set of the slot of that name, by its number,
// of each class that self can be of. There is one: the program was checked.
func (r *ruler) eachSlot(name string, do func(slot int)) {
	k := slices.Index(r.slots, name)
	r.each(r.method.self, func(sort int) {
		if slot, is := r.slot(sort, k); is {
			do(slot)
		}
	})
}

// call lays what is to hold of all methods that can be found.
func (r *ruler) call(name string, at, ahead int, exprs []int) {
	caller := r.caller()
	r.each(ahead, func(sort int) {
		m := r.find(sort, name, len(exprs))
		if m == nil {
			return
		}
		r.calls[caller] = append(r.calls[caller], m.number)
		r.give(m.self, of(sort))
		for i, expr := range exprs {
			r.flow(expr, m.names+i)
		}
		r.flow(m.answer, at)
	})
}
