package model

import (
	"slices"

	"gesso/api"
)

// scope makes steps of nodes: it is what names are of where a node stands. What
// comes behind a node is handed in, and is known to its steps from the start.
type scope struct {
	classes []*class
	slots   []string // in a method: those of the class in which it stands
	locals  []string // those of the innermost block last
}

// with answers the scope in which there is one local more.
func (s scope) with(name string) scope {
	s.locals = append(slices.Clip(s.locals), name)
	return s
}

// local answers the number of the innermost local of that name, or -1.
func (s scope) local(name string) int {
	for i, local := range slices.Backward(s.locals) {
		if local == name {
			return i
		}
	}
	return -1
}

// slot answers the number of the slot of that name. There is one where there is
// no such local: the program was checked.
func (s scope) slot(name string) int { return slices.Index(s.slots, name) }

// block answers the step that does a block: then itself, if the block is empty.
func (s scope) block(n api.Node, then step) step { return s.doAll(n.Kids, then) }

func (s scope) doAll(statements []api.Node, then step) step {
	if len(statements) == 0 {
		return then
	}
	first, behind := statements[0], s
	if first.Kind == api.NVar {
		behind = s.with(first.Text)
	}
	return s.do(first, behind.doAll(statements[1:], then))
}
