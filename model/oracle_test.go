package model

import (
	"iter"
	"maps"
	"slices"
	"strconv"

	"gesso/api"
)

// object is a thing, of a class or a gate (of the class "").
type object struct {
	class string
	slots []any
	count int
}

// world is a run said over again, in another way than the program's: processes
// are routines that go along the nodes, a thing is held by a pointer wherever
// it is named, and a swap goes through all who hold one. A value is an int, nil
// or an object's pointer.
type world struct {
	classes map[string]api.Node
	objects []*object
	actors  []*actor
	trace   api.Trace
}

// actor is a process.
type actor struct {
	*world
	scenes []*scene // main's or a fork's, then those of calls
	rounds int
	yield  func(func() bool) bool // stops, telling how to ask whether it is able
	next   func() (func() bool, bool)
	stop   func()
	able   func() bool // nil: it has ended
}

// scene is where a block is done.
type scene struct {
	self   any
	class  string // in which the method stands
	blocks []map[string]any
	held   []*any // what is being reckoned
}

// over is thrown by an actor that does not go on.
type over struct{}

// saidOver answers the trace of a program that was checked.
func saidOver(program api.Node, script []int) api.Trace {
	w := &world{classes: map[string]api.Node{}}
	last := len(program.Kids) - 1
	for _, c := range program.Kids[:last] {
		w.classes[c.Text] = c
	}
	w.enter(&scene{}, program.Kids[last])
	for w.trace.Status == 0 {
		script = w.step(script)
	}
	for _, a := range w.actors {
		a.stop()
	}
	return w.trace
}

// step makes a pick, or tells how the run has ended.
func (w *world) step(script []int) []int {
	var able []*actor
	ended := 0
	for _, a := range w.actors {
		switch {
		case a.able == nil:
			ended++
		case a.able():
			able = append(able, a)
		}
	}
	switch {
	case ended == len(w.actors):
		w.trace.Status = api.Done
	case len(able) == 0:
		w.trace.Status = api.Stuck
	case w.trace.Steps == maxMarks:
		w.trace.Status = api.Out
	default:
		which := 0
		if len(able) > 1 && len(script) > 0 {
			which = (script[0]%len(able) + len(able)) % len(able)
			script = script[1:]
		}
		w.trace.Steps++
		able[which].rounds = 0
		able[which].advance()
	}
	return script
}

// enter adds an actor that does a block, and lets it come to its first mark.
func (w *world) enter(s *scene, block api.Node) {
	a := &actor{world: w, scenes: []*scene{s}}
	a.next, a.stop = iter.Pull(func(yield func(func() bool) bool) {
		defer func() {
			if why := recover(); why != nil && why != any(over{}) {
				panic(why)
			}
		}()
		a.yield = yield
		a.block(block)
	})
	w.actors = append(w.actors, a)
	a.advance()
}

func (a *actor) advance() { a.able, _ = a.next() }

func (a *actor) scene() *scene { return a.scenes[len(a.scenes)-1] }

// mark stops until the actor is picked.
func (a *actor) mark(able func() bool) {
	if !a.yield(able) {
		panic(over{})
	}
}

func always() bool { return true }

// end ends the run.
func (a *actor) end(status int) {
	a.trace.Status = status
	panic(over{})
}

// need falls at the mark where the actor is, if that is not so.
func (a *actor) need(is bool) {
	if !is {
		a.end(api.Fell)
	}
}

// needAlone falls at a mark of its own, if that is not so.
func (a *actor) needAlone(is bool) {
	if !is {
		a.mark(always)
		a.end(api.Fell)
	}
}

// block answers the value of the return that ends it, if one does.
func (a *actor) block(n api.Node) (any, bool) {
	s := a.scene()
	s.blocks = append(s.blocks, map[string]any{})
	for _, kid := range n.Kids {
		if v, is := a.statement(kid); is {
			return v, true
		}
	}
	s.blocks = s.blocks[:len(s.blocks)-1]
	return nil, false
}

func (a *actor) statement(n api.Node) (any, bool) {
	s := a.scene()
	if n.Kind == api.NWhile {
		return a.while(n)
	}
	if n.Kind == api.NFork {
		a.mark(always)
		a.need(len(a.actors) < maxProcs)
		own := &scene{self: s.self, class: s.class}
		for _, b := range s.blocks {
			own.blocks = append(own.blocks, maps.Clone(b))
		}
		a.enter(own, n.Kids[0])
		return nil, false
	}
	exprs := n.Kids
	if n.Kind == api.NIf {
		exprs = n.Kids[:1]
	}
	held := a.hold(exprs)
	defer func() { s.held = s.held[:len(s.held)-len(held)] }()
	switch n.Kind {
	case api.NVar:
		s.blocks[len(s.blocks)-1][n.Text] = *held[0]
	case api.NSet:
		a.set(n.Text, held[0])
	case api.NReturn:
		return *held[0], true
	case api.NIf:
		_, is := (*held[0]).(int)
		a.needAlone(is)
		if *held[0] != 0 {
			return a.block(n.Kids[1])
		}
		if len(n.Kids) == 3 {
			return a.block(n.Kids[2])
		}
	default:
		a.effect(n.Kind, held)
	}
	return nil, false
}

func (a *actor) while(n api.Node) (any, bool) {
	for {
		a.rounds++
		if a.rounds == maxRounds+1 {
			a.mark(always)
			a.end(api.Endless)
		}
		condition := a.eval(n.Kids[0])
		_, is := condition.(int)
		a.needAlone(is)
		if condition == 0 {
			return nil, false
		}
		if v, is := a.block(n.Kids[1]); is {
			return v, true
		}
	}
}

// effect does what is seen of other statements.
func (a *actor) effect(kind int, held []*any) {
	isGate := func() bool {
		o, is := (*held[0]).(*object)
		return is && o.class == ""
	}
	switch kind {
	case api.NPrint:
		a.mark(always)
		a.trace.Prints = append(a.trace.Prints, said(*held[0]))
	case api.NSignal:
		a.mark(always)
		a.need(isGate())
		(*held[0]).(*object).count++
	case api.NWait:
		a.mark(func() bool { return !isGate() || (*held[0]).(*object).count != 0 })
		a.need(isGate())
		(*held[0]).(*object).count--
	case api.NSwap:
		a.mark(always)
		one, is := (*held[0]).(*object)
		a.need(is)
		other, is := (*held[1]).(*object)
		a.need(is)
		a.swap(one, other)
	}
}

func said(v any) string {
	switch x := v.(type) {
	case int:
		return strconv.Itoa(x)
	case *object:
		if x.class == "" {
			return "gate"
		}
		return x.class
	}
	return "nil"
}

// swap goes through every place where a value is.
func (w *world) swap(one, other *object) {
	turn := func(v *any) {
		switch *v {
		case one:
			*v = other
		case other:
			*v = one
		}
	}
	for _, o := range w.objects {
		for i := range o.slots {
			turn(&o.slots[i])
		}
	}
	for _, a := range w.actors {
		for _, s := range a.scenes {
			turn(&s.self)
			for _, v := range s.held {
				turn(v)
			}
			for _, b := range s.blocks {
				for _, name := range slices.Collect(maps.Keys(b)) {
					v := b[name]
					turn(&v)
					b[name] = v
				}
			}
		}
	}
}

// hold reckons expressions. What they are may be turned until it is let go.
func (a *actor) hold(nodes []api.Node) []*any {
	s := a.scene()
	var all []*any
	for _, n := range nodes {
		v := a.eval(n)
		all = append(all, &v)
		s.held = append(s.held, &v)
	}
	return all
}

func (a *actor) eval(n api.Node) any {
	s := a.scene()
	switch n.Kind {
	case api.NNumber:
		return n.Num
	case api.NNil:
		return nil
	case api.NSelf:
		return s.self
	case api.NName:
		for _, b := range slices.Backward(s.blocks) {
			if v, is := b[n.Text]; is {
				return v
			}
		}
		a.mark(always)
		return *a.slot(n.Text)
	case api.NGate, api.NNew:
		a.mark(always)
		o := &object{class: n.Text, slots: make([]any, len(a.slotsOf(n.Text)))}
		a.objects = append(a.objects, o)
		a.trace.Made++
		return o
	}
	held := a.hold(n.Kids)
	defer func() { s.held = s.held[:len(s.held)-len(held)] }()
	if n.Kind == api.NCall {
		return a.call(n.Text, held)
	}
	return a.reckon(n.Kind, held)
}

// set gives a local or a slot its value, which may be turned until then.
func (a *actor) set(name string, v *any) {
	for _, b := range slices.Backward(a.scene().blocks) {
		if _, is := b[name]; is {
			b[name] = *v
			return
		}
	}
	a.mark(always)
	*a.slot(name) = *v
}

// slotsOf answers the slots of a class, those of the one it stands on first.
func (w *world) slotsOf(class string) []string {
	var all []string
	for _, kid := range w.classes[class].Kids {
		switch kid.Kind {
		case api.NName:
			all = append(all, w.slotsOf(kid.Text)...)
		case api.NSlot:
			all = append(all, kid.Text)
		}
	}
	return all
}

func (a *actor) slot(name string) *any {
	s := a.scene()
	number := slices.Index(a.slotsOf(s.class), name)
	o := s.self.(*object)
	a.need(o.class != "" && number < len(o.slots))
	return &o.slots[number]
}

// find answers a method, and the class in which it stands.
func (w *world) find(class, name string, many int) (api.Node, string) {
	over := ""
	for _, kid := range w.classes[class].Kids {
		if kid.Kind == api.NMethod && kid.Text == name && len(kid.Kids) == many+1 {
			return kid, class
		}
		if kid.Kind == api.NName {
			over = kid.Text
		}
	}
	if over == "" {
		return api.Node{}, ""
	}
	return w.find(over, name, many)
}

func (a *actor) call(name string, held []*any) any {
	a.mark(always)
	o, is := (*held[0]).(*object)
	a.need(is && o.class != "")
	method, class := a.find(o.class, name, len(held)-1)
	a.need(method.Kind != 0 && len(a.scenes) <= maxCalls)
	s := &scene{self: o, class: class}
	// The names in parentheses are of the block's own list, but no var of the
	// block has the name of one of them: they may as well stand around it.
	names := map[string]any{}
	for i, v := range held[1:] {
		names[method.Kids[i].Text] = *v
	}
	s.blocks = append(s.blocks, names)
	a.scenes = append(a.scenes, s)
	v, _ := a.block(method.Kids[len(held)-1])
	a.scenes = a.scenes[:len(a.scenes)-1]
	return v
}

func (a *actor) reckon(kind int, held []*any) any {
	truth := func(is bool) any { return map[bool]int{true: 1}[is] }
	if kind == api.NSame {
		return truth(*held[0] == *held[1])
	}
	var all []int
	for _, v := range held {
		x, is := (*v).(int)
		a.needAlone(is)
		all = append(all, x)
	}
	var x int
	switch kind {
	case api.NNot:
		return truth(all[0] == 0)
	case api.NLess:
		return truth(all[0] < all[1])
	case api.NNeg:
		x = -all[0]
	case api.NAdd:
		x = all[0] + all[1]
	case api.NSub:
		x = all[0] - all[1]
	case api.NMul:
		x = all[0] * all[1]
	}
	a.needAlone(-1<<30 <= x && x < 1<<30)
	return x
}
