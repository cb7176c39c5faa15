package tri

import (
	"slices"

	"gesso/api"
)

// world is S1 said over again, on bare words: who is grey and who is black
// stands in two lists, and all others are white.
type world struct {
	words, roots []int
	grey, black  []int
}

// places answers where things begin.
func (w *world) places() []int {
	var all []int
	for at := 2; at < len(w.words); at += 3 + w.words[at+2]/4 {
		all = append(all, at)
	}
	return all
}

func (w *world) isThing(o int) bool {
	return o%2 == 0 && slices.Contains(w.places(), o/2)
}

func isNumber(o int) bool { return o%2 != 0 && leastOdd <= o && o <= mostOdd }

// slots answers the slots of the thing at that place, as they stand there.
func (w *world) slots(at int) []int {
	return w.words[at+3 : at+3+w.words[at+2]/4]
}

// names answers what somebody who is at that place comes to.
func (w *world) names(at int) []int {
	out := []int{w.words[at]}
	if w.words[at+2]%4 == 0 {
		out = append(out, w.slots(at)...)
	}
	return out
}

// reached asks all places again and again, until nobody comes to more.
func (w *world) reached() []int {
	var found []int
	for more := true; more; {
		more = false
		for _, at := range w.places() {
			if slices.Contains(found, 2*at) {
				continue
			}
			named := slices.Contains(w.roots, 2*at)
			for _, o := range found {
				named = named || slices.Contains(w.names(o/2), 2*at)
			}
			if named {
				found, more = append(found, 2*at), true
			}
		}
	}
	return found
}

func (w *world) isWhite(o int) bool {
	return w.isThing(o) && !slices.Contains(w.grey, o) && !slices.Contains(w.black, o)
}

func (w *world) makeGrey(o int) {
	if w.isWhite(o) {
		w.grey = append(w.grey, o)
	}
}

func (w *world) doScan() {
	if len(w.grey) == 0 {
		return
	}
	o := slices.Min(w.grey)
	for _, to := range w.names(o / 2) {
		w.makeGrey(to)
	}
	w.grey = slices.DeleteFunc(w.grey, func(p int) bool { return p == o })
	w.black = append(w.black, o)
}

func (w *world) doPut(o, at, what int) {
	reached := w.reached()
	if !slices.Contains(reached, o) {
		return
	}
	form, slots := w.words[o/2+2]%4, w.slots(o/2)
	if at < 0 || at >= len(slots) {
		return
	}
	may := isNumber(what) || what == 0 || slices.Contains(reached, what)
	if form == 1 {
		may = what >= 0 && what <= 255
	}
	if !may {
		return
	}
	if form == 0 {
		w.makeGrey(slots[at])
	}
	slots[at] = what
}

func (w *world) doNew(form, size int) {
	if form < 0 || form > 2 || size < 0 || size > maxSize || len(w.words)+3+size > maxWords || w.words[1] > maxHash {
		return
	}
	o := 2 * len(w.words)
	w.words = append(w.words, 0, w.words[1], 4*size+form)
	w.words = append(w.words, make([]int, size)...)
	w.words[1]++
	w.roots, w.black = append(w.roots, o), append(w.black, o)
}

func (w *world) doRoot(at, what int) {
	may := isNumber(what) || what == 0 || slices.Contains(w.reached(), what)
	if at < 0 || at >= len(w.roots) || !may {
		return
	}
	w.makeGrey(w.roots[at])
	w.roots[at] = what
}

// played is what Play is to answer of a heap and roots that may be.
func played(words, roots []int, all []api.Op) api.Play {
	w := &world{words: slices.Clone(words), roots: slices.Clone(roots)}
	for _, o := range roots {
		w.makeGrey(o)
	}
	for _, op := range all {
		switch op.Kind {
		case 1:
			w.doScan()
		case 2:
			w.doPut(op.O, op.At, op.What)
		case 3:
			w.doNew(op.Form, op.Size)
		case 4:
			w.doRoot(op.At, op.What)
		}
	}
	out := api.Play{H: api.Heap{Words: w.words}, Roots: w.roots, Done: len(w.grey) == 0}
	for _, at := range w.places() {
		switch o := 2 * at; {
		case slices.Contains(w.grey, o):
			out.Colours = append(out.Colours, grey)
		case slices.Contains(w.black, o):
			out.Colours = append(out.Colours, black)
		default:
			out.Colours = append(out.Colours, white)
			if out.Done {
				out.Freed = append(out.Freed, o)
			}
		}
	}
	return out
}
