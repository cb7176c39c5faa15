package check

import (
	"slices"

	"gesso/api"
)

// walker goes along the nodes of a program from the left, each ahead of its
// kids. The first fault it throws, by panic, so that no step has to ask how the
// one ahead of it ended.
type walker struct {
	next    int            // the number of the node that comes next
	classes map[string]int // of all names of classes: which class has it first
	past    [][]string     // of each class that was gone past all its slots
	place
}

// place is where a walker is: what names are there, and what may stand there.
type place struct {
	slots   []string // all slots of the class, in a method
	locals  []string // all that are there, those of the innermost block last
	own     int      // where those of the innermost block begin
	self    bool     // whether self may stand there
	returns bool     // whether return may
}

// thrown is what a walker throws.
type thrown struct{ fault api.Fault }

func throw(e api.Errno, at int) { panic(thrown{api.Fault{Code: e, At: at}}) }

// enter answers the number of the node that comes next, and goes into it.
func (w *walker) enter() int {
	w.next++
	return w.next - 1
}

// walk goes along n, which is a statement, an expression or a block.
func (w *walker) walk(n api.Node) {
	at := w.enter()
	w.look(n, at)
	switch n.Kind {
	case api.NBlock:
		w.walkAt(w.inBlock(), n.Kids)
	case api.NFork:
		w.walkAt(w.inFork(), n.Kids)
	default:
		w.walkAll(n.Kids)
	}
	// Not ahead of what is in it: there the local is not known yet.
	if n.Kind == api.NVar {
		w.add(n.Text, at)
	}
}

func (w *walker) walkAll(nodes []api.Node) {
	for _, n := range nodes {
		w.walk(n)
	}
}

// walkAt goes along those nodes at another place, and comes back: the locals
// that are made there are gone then.
func (w *walker) walkAt(p place, nodes []api.Node) {
	back := w.place
	w.place = p
	w.walkAll(nodes)
	w.place = back
}

// look throws what is wrong with the node itself, whatever its kids are.
func (w *walker) look(n api.Node, at int) {
	switch n.Kind {
	case api.NSet, api.NName:
		if !slices.Contains(w.locals, n.Text) && !slices.Contains(w.slots, n.Text) {
			throw(api.ErrName, at)
		}
	case api.NNew:
		if _, is := w.classes[n.Text]; !is {
			throw(api.ErrName, at)
		}
	case api.NSelf:
		if !w.self {
			throw(api.ErrKind, at)
		}
	case api.NReturn:
		if !w.returns {
			throw(api.ErrKind, at)
		}
	}
}

// add makes a local of the innermost block, for the node of that number.
func (w *walker) add(name string, at int) {
	if slices.Contains(w.locals[w.own:], name) {
		throw(api.ErrTwice, at)
	}
	if len(w.locals) == api.MaxLocals {
		throw(api.ErrSize, at)
	}
	w.locals = append(w.locals, name)
}

// inBlock answers the place in a block that begins here.
func (p place) inBlock() place {
	p.own = len(p.locals)
	return p
}

// inFork answers the place in a fork that begins here: self is still what it
// is, but no call waits for a value.
func (p place) inFork() place {
	p.returns = false
	return p
}
