package code

import (
	"slices"
	"testing"

	"gesso/api"
	"gesso/check"
)

// tree is a node that knows where it stands. L1 to L3 are said over again of
// it: numbers are asked of where a node stands, one by one, with nothing that
// is kept while orders are written, and jumps are told from where they stand.
type tree struct {
	api.Node
	up   *tree
	at   int // which one of up's kids it is
	kids []*tree
}

func treeOf(n api.Node, up *tree, at int) *tree {
	t := &tree{Node: n, up: up, at: at}
	for i, kid := range n.Kids {
		t.kids = append(t.kids, treeOf(kid, t, i))
	}
	return t
}

// of answers the kids of that kind.
func (t *tree) of(kind int) []*tree {
	var all []*tree
	for _, kid := range t.kids {
		if kid.Kind == kind {
			all = append(all, kid)
		}
	}
	return all
}

// around answers the innermost node of that kind around t, or nil.
func (t *tree) around(kind int) *tree {
	for t = t.up; t != nil && t.Kind != kind; t = t.up {
	}
	return t
}

// there answers the names of the locals that are there at t.
func (t *tree) there() []string {
	if t.up == nil {
		return nil
	}
	all := t.up.there()
	for _, ahead := range t.up.kids[:t.at] {
		if ahead.Kind == api.NVar || ahead.Kind == api.NArg {
			all = append(all, ahead.Text)
		}
	}
	return all
}

// all answers the nodes of that kind in t, those in others of them, too: each
// ahead of what is in it, or behind it.
func (t *tree) all(kind int, behind bool) []*tree {
	var all []*tree
	for _, kid := range t.kids {
		all = append(all, kid.all(kind, behind)...)
	}
	if t.Kind != kind {
		return all
	}
	if behind {
		return append(all, t)
	}
	return append([]*tree{t}, all...)
}

// spoken is a program that is said over again.
type spoken struct {
	classes []*tree
	bodies  []*tree // the blocks of main and of the methods, as they are gone over
	lists   []*tree // the blocks of all lists
}

func spokenOf(program api.Node) *spoken {
	root := treeOf(program, nil, 0)
	s := &spoken{classes: root.of(api.NClass), bodies: root.of(api.NBlock)}
	for _, class := range s.classes {
		for _, method := range class.of(api.NMethod) {
			s.bodies = append(s.bodies, method.of(api.NBlock)...)
		}
	}
	s.lists = slices.Clone(s.bodies)
	for _, body := range s.bodies {
		for _, fork := range body.all(api.NFork, false) {
			s.lists = append(s.lists, fork.kids[0])
		}
	}
	return s
}

func (s *spoken) program() api.Program {
	p := api.Program{Names: s.names()}
	for _, class := range s.classes {
		c := api.Class{Name: class.Text, Over: -1, Slots: len(s.slots(class))}
		for _, over := range class.of(api.NName) {
			c.Over = s.class(over.Text)
		}
		for _, m := range class.of(api.NMethod) {
			block := m.of(api.NBlock)[0]
			c.Methods = append(c.Methods, api.Method{Name: m.Text, Args: len(m.of(api.NArg)), Code: slices.Index(s.lists, block)})
		}
		p.Classes = append(p.Classes, c)
	}
	for _, block := range s.lists {
		list := s.nodes(block.kids)
		if block.up.Kind == api.NMethod {
			list = joined(list, order(api.ONil, 0, 0), order(api.OReturn, 0, 0))
		}
		p.Lists = append(p.Lists, list)
		p.Locals = append(p.Locals, s.locals(block))
	}
	return p
}

func (s *spoken) class(name string) int {
	return slices.IndexFunc(s.classes, func(t *tree) bool { return t.Text == name })
}

// slots answers the names of the slots of a class, in all.
func (s *spoken) slots(class *tree) []string {
	var all []string
	for _, over := range class.of(api.NName) {
		all = s.slots(s.classes[s.class(over.Text)])
	}
	for _, slot := range class.of(api.NSlot) {
		all = append(all, slot.Text)
	}
	return all
}

func (s *spoken) names() []string {
	var all []string
	for _, body := range s.bodies {
		for _, call := range body.all(api.NCall, true) {
			if !slices.Contains(all, call.Text) {
				all = append(all, call.Text)
			}
		}
	}
	return all
}

// locals answers how many are there at once in the list of that block: those
// at its begin, or those at a var of it and the var's own.
func (s *spoken) locals(block *tree) int {
	most := len(block.there())
	for _, v := range block.all(api.NVar, false) {
		if v.around(api.NFork) == block.around(api.NFork) {
			most = max(most, len(v.there())+1)
		}
	}
	return most
}

func order(op, a, b int) []api.Order { return []api.Order{{Op: op, A: a, B: b}} }

// joined puts lists one behind the other, so that their jumps still lead to
// where they led.
func joined(lists ...[]api.Order) []api.Order {
	var all []api.Order
	for _, list := range lists {
		from := len(all)
		for _, o := range list {
			if o.Op == api.OJump || o.Op == api.OZero {
				o.A += from
			}
			all = append(all, o)
		}
	}
	return all
}

func (s *spoken) nodes(all []*tree) []api.Order {
	var list []api.Order
	for _, t := range all {
		list = joined(list, s.node(t))
	}
	return list
}

func (s *spoken) node(t *tree) []api.Order {
	switch t.Kind {
	case api.NFork:
		return order(api.OFork, slices.Index(s.lists, t.kids[0]), 0)
	case api.NIf:
		return s.choice(t)
	case api.NWhile:
		condition, block := s.node(t.kids[0]), s.nodes(t.kids[1].kids)
		many := len(condition) + len(block) + 3
		// Each piece leads on from its own begin: the last one back over all ahead.
		return joined(order(api.ORound, 0, 0), condition, order(api.OZero, len(block)+2, 0), block, order(api.OJump, 1-many, 0))
	}
	return joined(s.nodes(t.kids), s.own(t))
}

func (s *spoken) choice(t *tree) []api.Order {
	condition, block := s.node(t.kids[0]), s.nodes(t.kids[1].kids)
	if len(t.kids) == 2 {
		return joined(condition, order(api.OZero, len(block)+1, 0), block)
	}
	other := s.nodes(t.kids[2].kids)
	return joined(condition, order(api.OZero, len(block)+2, 0), block, order(api.OJump, len(other)+1, 0), other)
}

// own answers the order behind those of what is in t.
func (s *spoken) own(t *tree) []api.Order {
	there := t.there()
	hidden := len(there) - 1
	for hidden >= 0 && there[hidden] != t.Text {
		hidden--
	}
	switch t.Kind {
	case api.NNumber:
		return order(api.OPush, t.Num, 0)
	case api.NNew:
		return order(api.ONew, s.class(t.Text), 0)
	case api.NCall:
		return order(api.OCall, slices.Index(s.names(), t.Text), len(t.kids)-1)
	case api.NVar:
		return order(api.OStore, len(there), 0)
	case api.NSet, api.NName:
		ops := [][2]int{{api.OLoad, api.OGet}, {api.OStore, api.OPut}}[min(1, len(t.kids))]
		if hidden >= 0 {
			return order(ops[0], hidden, 0)
		}
		return order(ops[1], slices.Index(s.slots(t.around(api.NClass)), t.Text), 0)
	}
	return order(plainOp(t.Kind), 0, 0)
}

// plainOp answers the order of a kind whose order has no numbers.
func plainOp(kind int) int {
	pairs := [][2]int{
		{api.NReturn, api.OReturn}, {api.NPrint, api.OPrint}, {api.NWait, api.OWait}, {api.NSignal, api.OSignal}, {api.NSwap, api.OSwap},
		{api.NDo, api.ODrop}, {api.NNil, api.ONil}, {api.NSelf, api.OSelf}, {api.NGate, api.OGate}, {api.NNeg, api.ONeg}, {api.NNot, api.ONot},
		{api.NLess, api.OLess}, {api.NSame, api.OSame}, {api.NAdd, api.OAdd}, {api.NSub, api.OSub}, {api.NMul, api.OMul},
	}
	return pairs[slices.IndexFunc(pairs, func(pair [2]int) bool { return pair[0] == kind })][1]
}

// agreed asks that Make answers what is said over again, or the fault of
// check.Check, and answers the code.
func agreed(t *testing.T, text string) api.Errno {
	t.Helper()
	n, fault := check.Check(text)
	want := api.Program{}
	if fault.Code == api.OK {
		want = spokenOf(n).program()
	}
	p, f := Make(text)
	if f != fault || shown(p) != shown(want) {
		t.Fatalf("%q: %v\n%s\nwant %v\n%s", text, f, shown(p), fault, shown(want))
	}
	if f.Code == api.OK {
		sound(t, text, p)
	}
	return f.Code
}
