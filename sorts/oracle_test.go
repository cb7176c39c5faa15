package sorts

import (
	"slices"
	"testing"

	"gesso/api"
	"gesso/check"
)

// tree is a node that knows what it stands in.
type tree struct {
	api.Node
	up     *tree
	at     int // which one of up's kids it is
	number int
	kids   []*tree
}

// spot names a set: of a node, of a local by its node, of a method by its node,
// of a slot by the class's node and its number.
type spot struct {
	what string
	of   *tree
	k    int
}

// said is N1 said over again, in another way than the program's: sets are maps,
// and all nodes are gone through again and again, until nothing comes.
type said struct {
	nodes   []*tree // by their numbers
	classes []*tree
	sets    map[spot]map[int]bool
	grows   bool
}

func saidOver(program api.Node) *said {
	s := &said{sets: map[spot]map[int]bool{}, grows: true}
	s.classes = s.grow(program, nil, 0).of(api.NClass)
	for s.grows {
		s.grows = false
		for _, t := range s.nodes {
			s.look(t)
		}
	}
	return s
}

func (s *said) grow(n api.Node, up *tree, at int) *tree {
	t := &tree{Node: n, up: up, at: at, number: len(s.nodes)}
	s.nodes = append(s.nodes, t)
	for i, kid := range n.Kids {
		t.kids = append(t.kids, s.grow(kid, t, i))
	}
	return t
}

// of answers the kids of that kind.
func (t *tree) of(kind int) []*tree {
	var all []*tree
	for _, kid := range t.kids {
		if kid.Kind == kind {
			all = append(all, kid)
		}
	}
	return all
}

// around answers the innermost node of that kind around t.
func (t *tree) around(kind int) *tree {
	for t.Kind != kind {
		t = t.up
	}
	return t
}

// isExpr tells whether t is an expression.
func (t *tree) isExpr() bool {
	return slices.Contains([]int{api.NLess, api.NSame, api.NAdd, api.NSub, api.NMul, api.NNeg, api.NNot, api.NCall, api.NNumber, api.NNil,
		api.NSelf, api.NGate, api.NNew, api.NName}, t.Kind) && t.up.Kind != api.NClass
}

// set answers the sorts of a set, rising.
func (s *said) set(p spot) []int {
	var all []int
	for sort := number; sort < len(s.classes); sort++ {
		if s.sets[p][sort] {
			all = append(all, sort)
		}
	}
	return all
}

func (s *said) expr(t *tree) []int { return s.set(spot{"node", t, 0}) }

func (s *said) put(p spot, sorts ...int) {
	for _, sort := range sorts {
		if s.sets[p] == nil {
			s.sets[p] = map[int]bool{}
		}
		if !s.sets[p][sort] {
			s.sets[p][sort], s.grows = true, true
		}
	}
}

// slots answers the names of the slots of a class, in all.
func (s *said) slots(class *tree) []string {
	var all []string
	for _, over := range class.of(api.NName) {
		all = s.slots(s.classes[s.class(over.Text)])
	}
	for _, slot := range class.of(api.NSlot) {
		all = append(all, slot.Text)
	}
	return all
}

func (s *said) class(name string) int {
	return slices.IndexFunc(s.classes, func(t *tree) bool { return t.Text == name })
}

// found answers the method of that name, with so many names, of a sort; or nil.
func (s *said) found(sort int, name string, many int) *tree {
	if sort < 0 {
		return nil
	}
	for _, m := range s.classes[sort].of(api.NMethod) {
		if m.Text == name && len(m.of(api.NArg)) == many {
			return m
		}
	}
	for _, over := range s.classes[sort].of(api.NName) {
		return s.found(s.class(over.Text), name, many)
	}
	return nil
}

// meant answers the sets that the name at t is of: a local's, or those of a slot
// of each class that self has.
func (s *said) meant(t *tree) []spot {
	for u := t; u.up != nil; u = u.up {
		for i := u.at - 1; i >= 0; i-- {
			if ahead := u.up.kids[i]; (ahead.Kind == api.NVar || ahead.Kind == api.NArg) && ahead.Text == t.Text {
				return []spot{{"local", ahead, 0}}
			}
		}
	}
	k := slices.Index(s.slots(t.around(api.NClass)), t.Text)
	var all []spot
	for _, sort := range s.set(spot{"self", t.around(api.NMethod), 0}) {
		if sort >= 0 && len(s.slots(s.classes[sort])) > k {
			all = append(all, spot{"slot", s.classes[sort], k})
		}
	}
	return all
}

// look gives what t asks for.
func (s *said) look(t *tree) {
	own := spot{"node", t, 0}
	switch t.Kind {
	case api.NClass:
		for k := range s.slots(t) {
			s.put(spot{"slot", t, k}, null)
		}
	case api.NMethod:
		s.put(spot{"answer", t, 0}, null)
	case api.NVar:
		s.put(spot{"local", t, 0}, s.expr(t.kids[0])...)
	case api.NSet:
		for _, to := range s.meant(t) {
			s.put(to, s.expr(t.kids[0])...)
		}
	case api.NReturn:
		s.put(spot{"answer", t.around(api.NMethod), 0}, s.expr(t.kids[0])...)
	case api.NSwap:
		s.swap(s.expr(t.kids[0]), s.expr(t.kids[1]))
	case api.NNil:
		s.put(own, null)
	case api.NGate:
		s.put(own, gate)
	case api.NNew:
		s.put(own, s.class(t.Text))
	case api.NSelf:
		s.put(own, s.set(spot{"self", t.around(api.NMethod), 0})...)
	case api.NCall:
		s.call(t)
	case api.NName:
		if t.isExpr() {
			for _, from := range s.meant(t) {
				s.put(own, s.set(from)...)
			}
		}
	default:
		if t.isExpr() {
			s.put(own, number)
		}
	}
}

func (s *said) call(t *tree) {
	for _, sort := range s.expr(t.kids[0]) {
		m := s.found(sort, t.Text, len(t.kids)-1)
		if m == nil {
			continue
		}
		s.put(spot{"self", m, 0}, sort)
		for i, arg := range m.of(api.NArg) {
			s.put(spot{"local", arg, 0}, s.expr(t.kids[i+1])...)
		}
		s.put(spot{"node", t, 0}, s.set(spot{"answer", m, 0})...)
	}
}

func (s *said) swap(one, other []int) {
	for _, a := range one {
		for _, b := range other {
			if a < gate || b < gate {
				continue
			}
			for p, set := range s.sets {
				if set[a] || set[b] {
					s.put(p, a, b)
				}
			}
		}
	}
}

// isSafe is N3 said over again.
func (s *said) isSafe() bool {
	for _, t := range s.nodes {
		for i, kid := range t.kids {
			for _, sort := range s.expr(kid) {
				switch t.Kind {
				case api.NCall:
					if i == 0 && s.found(sort, t.Text, len(t.kids)-1) == nil {
						return false
					}
				case api.NWait, api.NSignal:
					if sort != gate {
						return false
					}
				case api.NSwap:
					if sort == number || sort == null {
						return false
					}
				}
			}
		}
	}
	return true
}

// calls answers who can call whom: of main's block, then of each method, the
// numbers of the methods, the first one 1.
func (s *said) calls() [][]int {
	callers := []*tree{nil}
	for _, t := range s.nodes {
		if t.Kind == api.NMethod {
			callers = append(callers, t)
		}
	}
	all := make([][]int, len(callers))
	for i, caller := range callers {
		for k, m := range callers[1:] {
			if slices.ContainsFunc(s.nodes, func(t *tree) bool { return t.isIn(caller) && s.finds(t, m) }) {
				all[i] = append(all[i], k+1)
			}
		}
	}
	return all
}

// isIn tells whether t stands in that method; in none, if it is nil.
func (t *tree) isIn(method *tree) bool {
	for ; t != nil; t = t.up {
		if t.Kind == api.NMethod {
			return t == method
		}
	}
	return method == nil
}

// finds tells whether t is a call by which that method is found.
func (s *said) finds(t, method *tree) bool {
	return t.Kind == api.NCall && t.Text == method.Text && slices.ContainsFunc(s.expr(t.kids[0]), func(sort int) bool {
		return s.found(sort, t.Text, len(t.kids)-1) == method
	})
}

// agreed asks that Tell, Safe and Calls answer what is said over again, or the
// fault of check.Check and nothing else; it answers what Safe does, and whether
// text is a program.
func agreed(t *testing.T, text string) (isSafe, is bool) {
	t.Helper()
	n, fault := check.Check(text)
	var want, wantCalls [][]int
	wantSafe := false
	if fault.Code == api.OK {
		s := saidOver(n)
		for _, node := range s.nodes {
			want = append(want, s.expr(node))
		}
		wantSafe, wantCalls = s.isSafe(), s.calls()
	}
	all, f := Tell(text)
	if f != fault || !slices.EqualFunc(all, want, slices.Equal) {
		t.Fatalf("%q: %v\n%v, want %v\n%v", text, f, all, fault, want)
	}
	isSafe, f = Safe(text)
	if f != fault || isSafe != wantSafe {
		t.Fatalf("%q: %v %v, want %v %v", text, isSafe, f, wantSafe, fault)
	}
	if calls, f := Calls(text); f != fault || !slices.EqualFunc(calls, wantCalls, slices.Equal) {
		t.Fatalf("%q: %v %v, want %v %v", text, calls, f, wantCalls, fault)
	}
	return isSafe, fault.Code == api.OK
}
