package sorts

import (
	"slices"

	"gesso/api"
)

// class is one of the program.
type class struct {
	name    string
	over    *class   // the one it stands on, or nil
	slots   []string // all its slots, those of the one it stands on first
	first   int      // the set of the first one; those of the others follow
	methods []*method
}

// method is one of a class. Its sets have numbers.
type method struct {
	number       int // from 1 on, as they stand
	name         string
	many         int // how many names stand in parentheses
	names        int // the set of the first of them; those of the others follow
	self, answer int
}

// class adds a class, with sets for all that it has.
func (r *ruler) class(n api.Node) {
	c := &class{name: n.Text}
	for _, kid := range n.Kids {
		switch kid.Kind {
		case api.NName:
			c.over = r.classes[r.classOf(kid.Text)]
			c.slots = slices.Clone(c.over.slots)
		case api.NSlot:
			c.slots = append(c.slots, kid.Text)
		case api.NMethod:
			c.methods = append(c.methods, r.methodOf(kid))
		}
	}
	c.first = r.fresh(len(c.slots))
	for k := range c.slots {
		r.give(c.first+k, of(api.SortNil))
	}
	r.classes = append(r.classes, c)
}

// methodOf answers the method of that node, with sets for all that it has.
func (r *ruler) methodOf(n api.Node) *method {
	m := &method{number: len(r.calls), name: n.Text, many: n.Num, names: r.fresh(n.Num), self: r.fresh(1), answer: r.fresh(1)}
	r.give(m.answer, of(api.SortNil))
	r.calls = append(r.calls, nil)
	return m
}

// classOf answers the number of the class of that name. It is there: the
// program was checked.
func (r *ruler) classOf(name string) int {
	return slices.IndexFunc(r.classes, func(c *class) bool { return c.name == name })
}

// find answers the first method of that name, with so many names in
// parentheses, of what is of that sort: of the class, of the one it stands on,
// and so on; nil, if there is none. What is of no class has none.
func (r *ruler) find(sort int, name string, many int) *method {
	if sort < 0 {
		return nil
	}
	for c := r.classes[sort]; c != nil; c = c.over {
		for _, m := range c.methods {
			if m.name == name && m.many == many {
				return m
			}
		}
	}
	return nil
}

// slot answers the set of the k-th slot of what is of that sort; false, if it
// has none such.
func (r *ruler) slot(sort, k int) (int, bool) {
	if sort < 0 || k >= len(r.classes[sort].slots) {
		return 0, false
	}
	return r.classes[sort].first + k, true
}
