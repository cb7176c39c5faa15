package tri

import (
	"slices"

	"gesso/api"
	"gesso/heap"
	"gesso/reach"
)

// nothing is the reference nil.
const nothing = 0

// painter colours the things of a heap that is changed meanwhile.
type painter struct {
	store   heap.View
	roots   []int
	colours map[int]int // by the reference of each thing
}

// paint begins with the things of v: those of roots are grey, all others white.
func paint(v heap.View, roots []int) *painter {
	p := &painter{store: v, roots: slices.Clone(roots), colours: map[int]int{}}
	for _, o := range v.Things() {
		p.colours[o] = api.White
	}
	p.shade(roots...)
	return p
}

// shade makes those of refs grey that are of white things.
func (p *painter) shade(refs ...int) {
	for _, o := range refs {
		if colour, has := p.colours[o]; has && colour == api.White {
			p.colours[o] = api.Grey
		}
	}
}

// do does op; nothing if it may not be.
func (p *painter) do(op api.Op) {
	switch op.Kind {
	case api.OpScan:
		p.scan()
	case api.OpPut:
		p.put(op.O, op.At, op.What)
	case api.OpNew:
		p.add(op.Form, op.Size)
	case api.OpRoot:
		// The chapter's K is no field: of those that an op has, At says where.
		p.setRoot(op.At, op.What)
	}
}

// scan looks at the grey thing of the lowest reference.
func (p *painter) scan() {
	grey := p.all(api.Grey)
	if len(grey) == 0 {
		return
	}
	o := grey[0]
	p.shade(reach.Leads(p.store.Look(o))...)
	p.colours[o] = api.Black
}

// put fills a slot of a thing that is reached. What stood there turns grey:
// a black thing may hold it by now, which is not looked at once more.
func (p *painter) put(o, at, what int) {
	was, reached := p.store.Look(o), p.reached()
	if !slices.Contains(reached, o) || was.Form != api.Bytes && !p.isKnown(what, reached) {
		return
	}
	if p.store.Put(o, at, what) == api.OK && was.Form == api.Plain {
		p.shade(was.Slots[at])
	}
}

// add lays a new thing. It is black from the beginning, since it holds nobody,
// and a root, since nobody could come to it else.
func (p *painter) add(form, size int) {
	o, e := p.store.Add(nothing, form, size)
	if e != api.OK {
		return
	}
	p.colours[o] = api.Black
	p.roots = append(p.roots, o)
}

// setRoot lets the root at be what. What it was turns grey, as in put.
func (p *painter) setRoot(at, what int) {
	if at < 0 || at >= len(p.roots) || !p.isKnown(what, p.reached()) {
		return
	}
	p.shade(p.roots[at])
	p.roots[at] = what
}

// reached answers the references of all things that are reached from the roots
// as they are now.
func (p *painter) reached() []int { return reach.From(p.store, p.roots) }

// isKnown tells whether somebody who comes to the things reached can have o at
// hand: a small reference, nil, or one of those.
func (p *painter) isKnown(o int, reached []int) bool {
	if p.store.Has(o) {
		return slices.Contains(reached, o)
	}
	return p.store.IsReference(o)
}

// all answers the references of the things of that colour, rising.
func (p *painter) all(colour int) []int {
	var found []int
	for _, o := range p.store.Things() {
		if p.colours[o] == colour {
			found = append(found, o)
		}
	}
	return found
}

// told answers what has come of it by now.
func (p *painter) told() api.Play {
	out := api.Play{H: p.store.Heap(), Roots: slices.Clone(p.roots)}
	for _, o := range p.store.Things() {
		out.Colours = append(out.Colours, p.colours[o])
	}
	// While one is grey, one that is white may still be come to.
	out.Done = len(p.all(api.Grey)) == 0
	if out.Done {
		out.Freed = p.all(api.White)
	}
	return out
}
