package heap

import (
	"slices"

	"gesso/api"
	"gesso/word"
)

// How words stand on a heap: two ahead of all things, and of each thing three
// ahead of its slots. In the third one the form takes the two lowest bits.
const (
	nextHashAt = 1
	firstPlace = 2
	classAt    = 0
	hashAt     = 1
	shapeAt    = 2
	headWords  = 3
	formBits   = 2
	formMask   = 1<<formBits - 1
	mostByte   = 255
)

// View is a heap that may be, and where its things begin. Its words are its
// own, so that it may be kept and changed whoever else holds the heap.
type View struct {
	words  []int
	begins map[int]int // by the place of each thing, how many slots it has
}

// See answers the view of h; if h may not be, a view without things, and the
// fault that Check tells.
func See(h api.Heap) (View, api.Fault) {
	if f := frontFault(h.Words); f.Code != api.OK {
		return View{}, f
	}
	v := View{words: slices.Clone(h.Words), begins: map[int]int{}}
	if f := v.findThings(); f.Code != api.OK {
		return View{}, f
	}
	if f := v.thingsFault(); f.Code != api.OK {
		return View{}, f
	}
	return v, api.Fault{}
}

// frontFault tells what is wrong with how many words there are, or with those
// that stand ahead of all things.
func frontFault(words []int) api.Fault {
	switch {
	case len(words) < firstPlace || len(words) > api.MaxWords:
		return api.Fault{Code: api.ErrSize}
	case words[0] != 0:
		return api.Fault{Code: api.ErrForm}
	case words[nextHashAt] < 1 || words[nextHashAt] > api.MaxHash+1:
		return api.Fault{Code: api.ErrForm, At: nextHashAt}
	}
	return api.Fault{}
}

// findThings notes where things begin, and tells the first that does not fit.
func (v View) findThings() api.Fault {
	for place := firstPlace; place < len(v.words); {
		size, ok := v.fittingSize(place)
		if !ok {
			return api.Fault{Code: api.ErrForm, At: place}
		}
		v.begins[place] = size
		place += headWords + size
	}
	return api.Fault{}
}

// fittingSize answers how many slots a thing has that begins at place; false
// if none can begin there.
func (v View) fittingSize(place int) (int, bool) {
	left := len(v.words) - place - headWords
	if left < 0 {
		return 0, false
	}
	shape := v.words[place+shapeAt]
	size := shape >> formBits
	return size, isForm(shape&formMask) && isSize(size) && size <= left
}

func isForm(form int) bool {
	return form == api.Plain || form == api.Bytes || form == api.Weak
}

func isSize(size int) bool { return 0 <= size && size <= api.MaxSize }

// thingsFault tells what is wrong first with classes, hashes and slots. All
// things must have been found, since a reference may be of a later one.
func (v View) thingsFault() api.Fault {
	seen := map[int]int{} // by hash, the place of who has it
	for _, o := range v.Things() {
		place := o / 2
		if !v.isNilOrThing(v.words[place+classAt]) {
			return api.Fault{Code: api.ErrKind, At: place}
		}
		hash := v.words[place+hashAt]
		if _, twice := seen[hash]; twice || hash < 1 || hash >= v.words[nextHashAt] {
			return api.Fault{Code: api.ErrTwice, At: place}
		}
		seen[hash] = place
		if at, ok := v.wrongSlot(place); ok {
			return api.Fault{Code: api.ErrKind, At: at}
		}
	}
	return api.Fault{}
}

// wrongSlot answers the place of the first slot, of the thing at place, that
// holds what it can't; false if there is none.
func (v View) wrongSlot(place int) (int, bool) {
	form := v.form(place)
	for i, what := range v.slots(place) {
		if !v.mayStand(form, what) {
			return place + headWords + i, true
		}
	}
	return 0, false
}

// mayStand tells whether a slot of a thing of that form can hold what.
func (v View) mayStand(form, what int) bool {
	if form == api.Bytes {
		return 0 <= what && what <= mostByte
	}
	return v.IsReference(what)
}

// IsReference tells whether o is small, nil, or the reference of a thing.
func (v View) IsReference(o int) bool {
	return word.Kind(o) == api.KindSmall || v.isNilOrThing(o)
}

// isNilOrThing tells whether o is nil or the reference of a thing.
func (v View) isNilOrThing(o int) bool { return word.Kind(o) == api.KindNil || v.Has(o) }

// Has tells whether o is the reference of a thing.
func (v View) Has(o int) bool {
	if word.Kind(o) != api.KindThing {
		return false
	}
	_, ok := v.begins[o/2]
	return ok
}

// Things answers the references of all things, in order.
func (v View) Things() []int {
	var all []int
	for place := firstPlace; place < len(v.words); place += headWords + v.begins[place] {
		all = append(all, 2*place)
	}
	return all
}

// Look answers the thing that o is the reference of, in memory of its own; a
// zero thing if there is none.
func (v View) Look(o int) api.Thing {
	if !v.Has(o) {
		return api.Thing{}
	}
	place := o / 2
	return api.Thing{
		Class: v.words[place+classAt],
		Hash:  v.words[place+hashAt],
		Form:  v.form(place),
		Slots: slices.Clone(v.slots(place)),
	}
}

// form answers the form of the thing at place.
func (v View) form(place int) int { return v.words[place+shapeAt] & formMask }

// slots answers the slots of the thing at place, as they stand on the heap.
func (v View) slots(place int) []int {
	first := place + headWords
	return v.words[first : first+v.begins[place]]
}
