package code

import (
	"slices"

	"gesso/api"
)

// maker makes a program of nodes that were checked. What is made so far is the
// program that it embeds.
type maker struct {
	api.Program
	slotsOf [][]string // of each class all its slots, those of the one it stands on first
}

func (m *maker) program(n api.Node) {
	last := len(n.Kids) - 1
	classes, main := n.Kids[:last], n.Kids[last]
	m.begin(0)
	for _, class := range classes {
		m.class(class)
	}
	// Only now: any class may be made anywhere, and the lists of forks come
	// behind those of all methods.
	(&writer{maker: m}).block(main)
	for i, class := range classes {
		m.methods(class, i)
	}
}

// begin begins a list in which so many locals are there from its start, and
// answers its number.
func (m *maker) begin(locals int) int {
	m.Lists = append(m.Lists, nil)
	m.Locals = append(m.Locals, locals)
	return len(m.Lists) - 1
}

// class adds a class, and begins the lists of its methods.
func (m *maker) class(n api.Node) {
	c := api.Class{Name: n.Text, Over: -1}
	var slots []string
	for _, kid := range n.Kids {
		switch kid.Kind {
		case api.NName:
			c.Over = m.classOf(kid.Text)
			slots = slices.Clone(m.slotsOf[c.Over])
		case api.NSlot:
			slots = append(slots, kid.Text)
		case api.NMethod:
			c.Methods = append(c.Methods, api.Method{Name: kid.Text, Args: kid.Num, Code: m.begin(0)})
		}
	}
	c.Slots = len(slots)
	m.Classes = append(m.Classes, c)
	m.slotsOf = append(m.slotsOf, slots)
}

// methods writes the lists of the methods of that class, whose nodes stand
// behind all else in its node.
func (m *maker) methods(n api.Node, class int) {
	all := m.Classes[class].Methods
	nodes := n.Kids[len(n.Kids)-len(all):]
	for i, method := range all {
		w := &writer{maker: m, list: method.Code, slots: m.slotsOf[class]}
		w.method(nodes[i])
	}
}

// classOf answers the number of the class of that name. It is there: the
// program was checked.
func (m *maker) classOf(name string) int {
	return slices.IndexFunc(m.Classes, func(c api.Class) bool { return c.Name == name })
}

// nameOf answers the number of a name of calls, which it has from the first of
// them on.
func (m *maker) nameOf(name string) int {
	if i := slices.Index(m.Names, name); i >= 0 {
		return i
	}
	m.Names = append(m.Names, name)
	return len(m.Names) - 1
}
