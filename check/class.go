package check

import (
	"slices"

	"gesso/api"
)

// signature is what no two methods of one class have in common.
type signature struct {
	name string
	args int
}

func (w *walker) program(n api.Node) {
	w.enter()
	classes := n.Kids[:len(n.Kids)-1]
	// All are known from the beginning: a new may name one that stands behind it.
	for i, class := range classes {
		if _, is := w.classes[class.Text]; !is {
			w.classes[class.Text] = i
		}
	}
	for _, class := range classes {
		w.class(class)
	}
	w.walk(n.Kids[len(classes)])
}

func (w *walker) class(n api.Node) {
	at := w.enter()
	if w.isPast(n.Text) {
		throw(api.ErrTwice, at)
	}
	var slots []string
	methods := map[signature]int{}
	for _, kid := range n.Kids {
		at := w.enter()
		switch kid.Kind {
		case api.NName:
			slots = w.over(kid.Text, at)
		case api.NSlot:
			slots = oneMore(slots, kid.Text, at)
		case api.NMethod:
			only(methods, signature{kid.Text, kid.Num}, at)
			w.method(kid, slots)
		}
	}
	w.past = append(w.past, slots)
}

// isPast tells whether a class of that name was gone past.
func (w *walker) isPast(name string) bool {
	i, is := w.classes[name]
	return is && i < len(w.past)
}

// over answers the slots of the class of that name, which another one stands
// on, as a list that can grow by itself.
func (w *walker) over(name string, at int) []string {
	if !w.isPast(name) {
		throw(api.ErrName, at)
	}
	return slices.Clone(w.past[w.classes[name]])
}

// oneMore answers those slots of a class with one more.
func oneMore(slots []string, name string, at int) []string {
	if slices.Contains(slots, name) {
		throw(api.ErrTwice, at)
	}
	if len(slots) == api.MaxSize-1 {
		throw(api.ErrSize, at)
	}
	return append(slots, name)
}

// only notes a method of a class, if it is the only one that is so.
func only(methods map[signature]int, s signature, at int) {
	if methods[s] > 0 {
		throw(api.ErrTwice, at)
	}
	methods[s]++
}

// method goes along a method, that was gone into, of a class with those slots.
func (w *walker) method(n api.Node, slots []string) {
	back := w.place
	w.place = place{slots: slots, self: true, returns: true}
	for _, arg := range n.Kids[:n.Num] {
		w.add(arg.Text, w.enter())
	}
	w.body(n.Kids[n.Num])
	w.place = back
}

// body goes along the block of a method, whose own locals its names in
// parentheses are: no block begins that is another one than theirs.
func (w *walker) body(block api.Node) {
	w.enter()
	w.walkAll(block.Kids)
}
