package model

import (
	"slices"

	"gesso/api"
)

// class is one of the program.
type class struct {
	name    string
	over    *class   // the one it stands on, or nil
	slots   []string // all its slots, those of the one it stands on first
	methods []method // its own
}

// method is one of a class.
type method struct {
	name string
	many int  // how many names stand in parentheses
	does step // its block, and the end of the call
}

// classesOf answers the classes of those nodes.
func classesOf(nodes []api.Node) []*class {
	var all []*class
	for _, n := range nodes {
		c := &class{name: n.Text}
		for _, kid := range n.Kids {
			switch kid.Kind {
			case api.NName:
				c.over = named(all, kid.Text)
				c.slots = slices.Clone(c.over.slots)
			case api.NSlot:
				c.slots = append(c.slots, kid.Text)
			}
		}
		all = append(all, c)
	}
	// Only now: methods may make things of classes that stand behind.
	for i, n := range nodes {
		for _, kid := range n.Kids {
			if kid.Kind == api.NMethod {
				all[i].methods = append(all[i].methods, methodOf(kid, scope{classes: all, slots: all[i].slots}))
			}
		}
	}
	return all
}

// methodOf answers the method of that node, whose names are those of the scope.
func methodOf(n api.Node, s scope) method {
	for _, kid := range n.Kids[:n.Num] {
		s = s.with(kid.Text)
	}
	return method{n.Text, n.Num, s.block(n.Kids[n.Num], pushed(value{}, (*process).leave))}
}

// named answers the class of that name. It is there: the program was checked.
func named(all []*class, name string) *class {
	return all[slices.IndexFunc(all, func(c *class) bool { return c.name == name })]
}

// method answers the first method of that name, with so many names in
// parentheses, of c, of the one it stands on, and so on; nil, if there is none.
// A gate, whose class is nil, has none.
func (c *class) method(name string, many int) *method {
	for ; c != nil; c = c.over {
		for i := range c.methods {
			if m := &c.methods[i]; m.name == name && m.many == many {
				return m
			}
		}
	}
	return nil
}
