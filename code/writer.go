package code

import (
	"slices"

	"gesso/api"
)

// writer writes the orders of one list.
type writer struct {
	*maker
	list   int
	slots  []string // in a method: those of the class in which it stands
	locals []string // by their numbers; those of the innermost block last
}

// ops are the orders of kinds of nodes that have numbers neither of their own
// nor of what they name.
var ops = [...]int{
	api.NReturn: api.OReturn,
	api.NPrint:  api.OPrint,
	api.NWait:   api.OWait,
	api.NSignal: api.OSignal,
	api.NSwap:   api.OSwap,
	api.NDo:     api.ODrop,
	api.NLess:   api.OLess,
	api.NSame:   api.OSame,
	api.NAdd:    api.OAdd,
	api.NSub:    api.OSub,
	api.NMul:    api.OMul,
	api.NNeg:    api.ONeg,
	api.NNot:    api.ONot,
	api.NNil:    api.ONil,
	api.NSelf:   api.OSelf,
	api.NGate:   api.OGate,
}

// method writes the list of a method, which ends with a value whether or not a
// return stands ahead of its end.
func (w *writer) method(n api.Node) {
	for _, arg := range n.Kids[:n.Num] {
		w.declare(arg.Text)
	}
	w.block(n.Kids[n.Num])
	w.write(api.Order{Op: api.ONil})
	w.write(api.Order{Op: api.OReturn})
}

// block writes a block: the numbers of its locals are free again behind it.
func (w *writer) block(n api.Node) {
	around := len(w.locals)
	w.nodes(n.Kids)
	w.locals = w.locals[:around]
}

func (w *writer) nodes(all []api.Node) {
	for _, n := range all {
		w.node(n)
	}
}

// node writes a statement or an expression.
func (w *writer) node(n api.Node) {
	switch n.Kind {
	case api.NIf:
		w.choice(n)
	case api.NWhile:
		w.while(n)
	case api.NFork:
		w.fork(n)
	default:
		w.nodes(n.Kids)
		w.write(w.order(n))
	}
}

// order answers the order that stands behind those of what is in n.
func (w *writer) order(n api.Node) api.Order {
	switch n.Kind {
	case api.NNumber:
		return api.Order{Op: api.OPush, A: n.Num}
	case api.NNew:
		return api.Order{Op: api.ONew, A: w.classOf(n.Text)}
	case api.NCall:
		return api.Order{Op: api.OCall, A: w.nameOf(n.Text), B: len(n.Kids) - 1}
	case api.NName:
		return w.named(n.Text, api.OLoad, api.OGet)
	case api.NSet:
		return w.named(n.Text, api.OStore, api.OPut)
	case api.NVar:
		return api.Order{Op: api.OStore, A: w.declare(n.Text)}
	}
	return api.Order{Op: ops[n.Kind]}
}

func (w *writer) choice(n api.Node) {
	w.node(n.Kids[0])
	skip := w.write(api.Order{Op: api.OZero})
	w.block(n.Kids[1])
	if len(n.Kids) == 3 {
		end := w.write(api.Order{Op: api.OJump})
		w.leadHere(skip)
		w.block(n.Kids[2])
		skip = end
	}
	w.leadHere(skip)
}

func (w *writer) while(n api.Node) {
	round := w.write(api.Order{Op: api.ORound})
	w.node(n.Kids[0])
	skip := w.write(api.Order{Op: api.OZero})
	w.block(n.Kids[1])
	w.write(api.Order{Op: api.OJump, A: round})
	w.leadHere(skip)
}

// fork writes the order of a fork, and then its list, ahead of what comes
// behind it here: forks have their numbers as they are met.
func (w *writer) fork(n api.Node) {
	list := w.begin(len(w.locals))
	w.write(api.Order{Op: api.OFork, A: list})
	own := &writer{maker: w.maker, list: list, slots: w.slots, locals: slices.Clone(w.locals)}
	own.block(n.Kids[0])
}

// write adds an order, and answers where it stands.
func (w *writer) write(o api.Order) int {
	w.Lists[w.list] = append(w.Lists[w.list], o)
	return len(w.Lists[w.list]) - 1
}

// leadHere lets the order that stands there lead on to the one that is written
// next.
func (w *writer) leadHere(at int) {
	w.Lists[w.list][at].A = len(w.Lists[w.list])
}

// declare makes a local of the innermost block, and answers its number.
func (w *writer) declare(name string) int {
	w.locals = append(w.locals, name)
	w.Locals[w.list] = max(w.Locals[w.list], len(w.locals))
	return len(w.locals) - 1
}

// named answers the order of a name: of the innermost local that has it, else
// of the slot. There is one: the program was checked.
func (w *writer) named(name string, local, slot int) api.Order {
	for i, one := range slices.Backward(w.locals) {
		if one == name {
			return api.Order{Op: local, A: i}
		}
	}
	return api.Order{Op: slot, A: slices.Index(w.slots, name)}
}
