package sweep

import (
	"math"
	"slices"
	"testing"

	"gesso/api"
	"gesso/heap"
	"gesso/reach"
)

// The limits stand here as plain digits, so that a slip in how the program
// works them out is seen.
const (
	maxWords = 2000
	maxSize  = 60
	maxHash  = 10000
	mostOdd  = 2147483647
	leastOdd = -2147483647
)

func fault(code api.Errno, at int) api.Fault { return api.Fault{Code: code, At: at} }

var fine = api.Fault{}

// collected is a heap with its roots, and what is to come of both.
type collected struct {
	name         string
	words, roots []int
	want, wanted []int
}

func (c collected) hold(t *testing.T) {
	t.Helper()
	h := api.Heap{Words: c.words}
	k, others, f := Collect(h, c.roots)
	if f != fine || !slices.Equal(k.Words, c.want) || !slices.Equal(others, c.wanted) {
		t.Errorf("%s: %v %v %v, want %v %v", c.name, k.Words, others, f, c.want, c.wanted)
	}
	holdD2(t, c.name, h, c.roots)
}

// holdD2 asks all that D2 says of what comes of h and roots.
func holdD2(t *testing.T, name string, h api.Heap, roots []int) {
	t.Helper()
	k, others, f := Collect(h, roots)
	if f != fine {
		t.Errorf("%s: %v", name, f)
		return
	}
	if f := heap.Check(k); f != fine {
		t.Errorf("%s: what comes out may not be: %v %v", name, k.Words, f)
	}
	if len(k.Words) > len(h.Words) {
		t.Errorf("%s: %d words became %d", name, len(h.Words), len(k.Words))
	}
	if is, f := reach.Alike(h, roots, k, others); !is || f != fine {
		t.Errorf("%s: not alike: %v %v and %v %v: %v", name, h.Words, roots, k.Words, others, f)
	}
	again, same, f := Collect(k, others)
	if f != fine || !slices.Equal(again.Words, k.Words) || !slices.Equal(same, others) {
		t.Errorf("%s: once more: %v %v %v, was %v %v", name, again.Words, same, f, k.Words, others)
	}
}

// joined is a heap's words: the first two, then those of each thing.
func joined(parts ...[]int) []int { return slices.Concat(parts...) }

func TestTheChaptersExample(t *testing.T) {
	collected{
		"the second thing",
		[]int{0, 3, 0, 1, 0, 0, 2, 4, 0}, []int{10},
		[]int{0, 3, 0, 2, 4, 0}, []int{4},
	}.hold(t)
}

func TestWhoStaysAndWhere(t *testing.T) {
	// Things of no slots, of one and of two: the references 4, 10 and 18.
	x, y, z := []int{0, 5, 0}, []int{0, 2, 4, 7}, []int{0, 8, 8, 0, 9}
	front := []int{0, 9}
	three := joined(front, x, y, z)
	pair := joined(front, []int{0, 1, 4, 12}, []int{0, 2, 4, 4})
	for _, c := range []collected{
		{"no thing, no roots", []int{0, 1}, nil, []int{0, 1}, nil},
		{"no thing, empty roots", []int{0, 1}, []int{}, []int{0, 1}, nil},
		{"no thing, small and nil roots", []int{0, 1}, []int{0, 5, 0}, []int{0, 1}, []int{0, 5, 0}},
		{"no roots", three, nil, front, nil},
		{"none is reached", three, []int{1, 0, mostOdd, leastOdd}, front, []int{1, 0, mostOdd, leastOdd}},
		{"all are reached", three, []int{4, 10, 18}, three, []int{4, 10, 18}},
		{"all are reached, roots that fall", three, []int{18, 10, 4}, three, []int{18, 10, 4}},
		{"the first", three, []int{4}, joined(front, x), []int{4}},
		{"the one between", three, []int{10}, joined(front, y), []int{4}},
		{"the last", three, []int{18}, joined(front, z), []int{4}},
		{"the earlier ones", three, []int{4, 10}, joined(front, x, y), []int{4, 10}},
		{"the outer ones", three, []int{4, 18}, joined(front, x, z), []int{4, 10}},
		{"the later ones", three, []int{10, 18}, joined(front, y, z), []int{4, 12}},
		{"their order is the heap's, not the roots'", three, []int{18, 4}, joined(front, x, z), []int{10, 4}},
		{"one that moves twice", three, []int{18, 18, 10, 18}, joined(front, y, z), []int{12, 12, 4, 12}},
		{"one that does not move twice", three, []int{4, 4}, joined(front, x), []int{4, 4}},
		{
			"roots of all kinds", three, []int{5, 18, 0, 4, leastOdd, 18, 0, mostOdd},
			joined(front, x, z), []int{5, 10, 0, 4, leastOdd, 10, 0, mostOdd},
		},
		{"a circle goes", pair, []int{0}, front, []int{0}},
		{"a circle stays", pair, []int{12}, pair, []int{12}},
	} {
		c.hold(t)
	}
}

// before is the beginning of a heap whose first thing goes, so that all others
// move: the next one has the reference 10, and 4 behind that.
func before() []int { return []int{0, 9, 0, 1, 0} }

func TestClassesAndSlotsTurn(t *testing.T) {
	front := []int{0, 9}
	for _, c := range []collected{
		{
			"a class ahead of it",
			joined(before(), []int{0, 2, 0}, []int{10, 3, 0}), []int{16},
			joined(front, []int{0, 2, 0}, []int{4, 3, 0}), []int{10},
		},
		{
			"a class behind it",
			joined(before(), []int{16, 2, 0}, []int{0, 3, 0}), []int{10},
			joined(front, []int{10, 2, 0}, []int{0, 3, 0}), []int{4},
		},
		{
			"its own class",
			joined(before(), []int{10, 2, 0}), []int{10},
			joined(front, []int{4, 2, 0}), []int{4},
		},
		{
			"classes of Bytes and of Weak",
			joined(before(), []int{22, 2, 1}, []int{22, 3, 2}, []int{0, 4, 0}), []int{10, 16},
			joined(front, []int{16, 2, 1}, []int{16, 3, 2}, []int{0, 4, 0}), []int{4, 10},
		},
		{
			"a slot of one ahead of it",
			joined(before(), []int{0, 2, 0}, []int{0, 3, 4, 10}), []int{16},
			joined(front, []int{0, 2, 0}, []int{0, 3, 4, 4}), []int{10},
		},
		{
			"a slot of one behind it",
			joined(before(), []int{0, 2, 4, 18}, []int{0, 3, 0}), []int{10},
			joined(front, []int{0, 2, 4, 12}, []int{0, 3, 0}), []int{4},
		},
		{
			"a slot of its own",
			joined(before(), []int{0, 2, 4, 10}), []int{10},
			joined(front, []int{0, 2, 4, 4}), []int{4},
		},
		{
			"slots of all kinds",
			joined(before(), []int{28, 2, 24, 1, 28, 0, 10, mostOdd, leastOdd}, []int{0, 3, 0}), []int{10, 3},
			joined(front, []int{22, 2, 24, 1, 22, 0, 4, mostOdd, leastOdd}, []int{0, 3, 0}), []int{4, 3},
		},
		{
			// The second goes: who is ahead of it stays at its place.
			"who does not move has one who does",
			joined(front, []int{18, 1, 4, 18}, []int{0, 2, 0}, []int{4, 3, 4, 4}), []int{4},
			joined(front, []int{12, 1, 4, 12}, []int{4, 3, 4, 4}), []int{4},
		},
	} {
		c.hold(t)
	}
}

func TestBytesStay(t *testing.T) {
	front := []int{0, 9}
	for _, c := range []collected{
		{
			// 10, 22 and 4 are references, too: of itself, of one that
			// moves, and of the one that goes.
			"bytes that are references",
			joined(before(), []int{0, 2, 13, 10, 22, 4}, []int{0, 3, 0}), []int{10, 22},
			joined(front, []int{0, 2, 13, 10, 22, 4}, []int{0, 3, 0}), []int{4, 16},
		},
		{
			"bytes hold nobody",
			joined(before(), []int{0, 2, 5, 18}, []int{0, 3, 0}), []int{10},
			joined(front, []int{0, 2, 5, 18}), []int{4},
		},
		{
			"the least and the most",
			joined(before(), []int{0, 2, 17, 0, 1, 254, 255}), []int{10},
			joined(front, []int{0, 2, 17, 0, 1, 254, 255}), []int{4},
		},
	} {
		c.hold(t)
	}
}

func TestSlotsOfWeak(t *testing.T) {
	front := []int{0, 9}
	weak := []int{0, 2, 6, 18}
	for _, c := range []collected{
		{
			"one that is not reached",
			joined(before(), weak, []int{0, 3, 0}), []int{10},
			joined(front, []int{0, 2, 6, 0}), []int{4},
		},
		{
			"one that is reached, and moves",
			joined(before(), weak, []int{0, 3, 0}), []int{10, 18},
			joined(front, []int{0, 2, 6, 12}, []int{0, 3, 0}), []int{4, 12},
		},
		{
			"one that is reached, and does not move",
			joined(before(), []int{0, 2, 6, 4}), []int{4, 10},
			joined(before(), []int{0, 2, 6, 4}), []int{4, 10},
		},
		{
			"one that goes, ahead of it",
			joined(before(), []int{0, 2, 6, 4}), []int{10},
			joined(front, []int{0, 2, 6, 0}), []int{4},
		},
		{
			"itself, nil and small ones",
			joined(before(), []int{0, 2, 22, 10, 0, 1, mostOdd, leastOdd}), []int{10},
			joined(front, []int{0, 2, 22, 4, 0, 1, mostOdd, leastOdd}), []int{4},
		},
		{
			"one that its class holds",
			joined(before(), []int{18, 2, 6, 26}, []int{0, 3, 4, 26}, []int{0, 4, 0}), []int{10},
			joined(front, []int{12, 2, 6, 20}, []int{0, 3, 4, 20}, []int{0, 4, 0}), []int{4},
		},
		{
			"one that is held by one who goes",
			joined(before(), []int{0, 2, 6, 26}, []int{0, 3, 4, 26}, []int{0, 4, 0}), []int{10},
			joined(front, []int{0, 2, 6, 0}), []int{4},
		},
		{
			"Plain leads to Weak, and no further",
			joined(before(), []int{0, 2, 4, 18}, []int{0, 3, 6, 26}, []int{0, 4, 0}), []int{10},
			joined(front, []int{0, 2, 4, 12}, []int{0, 3, 6, 0}), []int{4},
		},
		{
			// What stands at the place of who went is not who was meant.
			"another one stands there now",
			joined(front, []int{0, 1, 6, 12}, []int{0, 2, 0}, []int{0, 3, 0}), []int{4, 18},
			joined(front, []int{0, 1, 6, 0}, []int{0, 3, 0}), []int{4, 12},
		},
	} {
		c.hold(t)
	}
}

func TestTheFirstTwoWordsStay(t *testing.T) {
	for _, next := range []int{3, 4, 77, maxHash, maxHash + 1} {
		for _, c := range []collected{
			{"none stays", []int{0, next, 0, 1, 0, 0, 2, 0}, nil, []int{0, next}, nil},
			{"one stays", []int{0, next, 0, 1, 0, 0, 2, 0}, []int{10}, []int{0, next, 0, 2, 0}, []int{4}},
			{"all stay", []int{0, next, 0, 1, 0, 0, 2, 0}, []int{10, 4}, []int{0, next, 0, 1, 0, 0, 2, 0}, []int{10, 4}},
		} {
			c.hold(t)
		}
	}
	collected{
		"the highest hash",
		[]int{0, maxHash + 1, 0, 1, 0, 0, maxHash, 0}, []int{10},
		[]int{0, maxHash + 1, 0, maxHash, 0}, []int{4},
	}.hold(t)
}

// thing is one of a heap that is built by numbers of things, not by places.
// A class, and a slot of Plain or Weak: the number of a thing, or one of the
// others below; a slot of Bytes is its byte.
type thing struct {
	class, hash, form int
	slots             []int
}

// none is nil; small(n) the small reference of n.
const none = -1

func small(n int) int { return -1000 - n }

// build answers the heap of those things that order has (by numbers), in that
// order, and all references by numbers: nil of those that it has not.
func build(things []thing, next int, order []int) (api.Heap, []int) {
	refs := make([]int, len(things))
	at := 2
	for _, n := range order {
		refs[n] = 2 * at
		at += 3 + len(things[n].slots)
	}
	words := []int{0, next}
	for _, n := range order {
		x := things[n]
		words = append(words, refOf(refs, x.class), x.hash, 4*len(x.slots)+x.form)
		if x.form == api.Bytes {
			words = append(words, x.slots...)
		} else {
			words = append(words, refsOf(refs, x.slots)...)
		}
	}
	return api.Heap{Words: words}, refs
}

func refOf(refs []int, n int) int {
	switch {
	case n >= 0:
		return refs[n]
	case n == none:
		return 0
	}
	return 2*(-n-1000) + 1
}

func refsOf(refs []int, numbers []int) []int {
	var out []int
	for _, n := range numbers {
		out = append(out, refOf(refs, n))
	}
	return out
}

func inOrder(n int) []int {
	var out []int
	for i := range n {
		out = append(out, i)
	}
	return out
}

// dice are numbers from a fixed rule.
type dice uint64

func (d *dice) below(n int) int {
	*d = *d*6364136223846793005 + 1442695040888963407
	return int(uint64(*d)>>33) % n
}

func (d *dice) shuffled(n int) []int {
	out := inOrder(n)
	for i := range out {
		j := i + d.below(n-i)
		out[i], out[j] = out[j], out[i]
	}
	return out
}

// anyone answers the number of one of n things, or none, or a small one.
func (d *dice) anyone(n int) int {
	switch d.below(4) {
	case 0:
		return none
	case 1:
		return small(d.below(3))
	}
	return d.below(n)
}

// scattered answers n things and some roots, by numbers.
func (d *dice) scattered(n int) ([]thing, []int) {
	things := make([]thing, n)
	hashes := d.shuffled(n)
	for i := range things {
		x := thing{class: none, hash: hashes[i] + 1, form: d.below(3)}
		if d.below(4) == 0 {
			x.class = d.below(n)
		}
		for range d.below(4) {
			if x.form == api.Bytes {
				x.slots = append(x.slots, d.below(128))
			} else {
				x.slots = append(x.slots, d.anyone(n))
			}
		}
		things[i] = x
	}
	var roots []int
	for range d.below(4) {
		roots = append(roots, d.anyone(n))
	}
	return things, roots
}

// isReached is C2 said over again: all things are asked, over and over, until
// no more is reached.
func isReached(things []thing, roots []int) []bool {
	is := make([]bool, len(things))
	come := func(numbers ...int) (more bool) {
		for _, n := range numbers {
			if n >= 0 && !is[n] {
				is[n], more = true, true
			}
		}
		return more
	}
	for more := come(roots...); more; {
		more = false
		for i, x := range things {
			if is[i] {
				more = come(x.class) || more
			}
			if is[i] && x.form == api.Plain {
				more = come(x.slots...) || more
			}
		}
	}
	return is
}

// Who is collected by places is held against who is built anew by numbers, of
// those that are reached alone.
func TestAgainstTheChapter(t *testing.T) {
	d := dice(1)
	var some, all, no int
	for range 6000 {
		n := 1 + d.below(10)
		things, roots := d.scattered(n)
		order := d.shuffled(n)
		next := n + 1 + d.below(3)
		h, refs := build(things, next, order)
		is := isReached(things, roots)
		stay := slices.DeleteFunc(slices.Clone(order), func(n int) bool { return !is[n] })
		want, wantRefs := build(things, next, stay)
		k, others, f := Collect(h, refsOf(refs, roots))
		if f != fine || !slices.Equal(k.Words, want.Words) || !slices.Equal(others, refsOf(wantRefs, roots)) {
			t.Fatal(h, refsOf(refs, roots), k, others, f, want)
		}
		holdD2(t, "scattered", h, refsOf(refs, roots))
		switch len(stay) {
		case 0:
			no++
		case n:
			all++
		default:
			some++
		}
	}
	if no < 300 || all < 300 || some < 300 {
		t.Error("one-sided", no, some, all)
	}
}

// row answers a heap of that many things, each of which leads on to the next
// one, or if back is true to the one ahead: by its class, or by its one slot.
func row(many int, byClass, back bool) (api.Heap, []int) {
	things := make([]thing, many)
	for i := range things {
		to := i + 1
		if back {
			to = i - 1
		}
		if to == many {
			to = none
		}
		things[i] = thing{class: none, hash: i + 1}
		if byClass {
			things[i].class = to
		} else {
			things[i].slots = []int{to}
		}
	}
	return build(things, many+1, inOrder(many))
}

// All things of a full heap are one long row; who stands at its beginning goes,
// so that all others move, or (where the row leads back) none does.
func TestLongRows(t *testing.T) {
	for _, byClass := range []bool{true, false} {
		many, room := 499, 4
		if byClass {
			many, room = 666, 3
		}
		for _, back := range []bool{false, true} {
			h, refs := row(many, byClass, back)
			first, last, one := refs[0], refs[many-1], refs[1]
			if back {
				first, last, one = refs[many-1], refs[0], refs[many-2]
			}
			if len(h.Words) < maxWords-room || heap.Check(h) != fine {
				t.Fatal(len(h.Words), heap.Check(h))
			}
			k, roots, f := Collect(h, []int{first})
			if f != fine || !slices.Equal(k.Words, h.Words) || roots[0] != first {
				t.Error("all", byClass, back, len(k.Words), roots, f)
			}
			k, roots, f = Collect(h, []int{one, last})
			if f != fine || len(k.Words) != len(h.Words)-room || heap.Check(k) != fine {
				t.Error("all but one", byClass, back, len(k.Words), roots, f)
			}
			holdD2(t, "all but one", h, []int{one, last})
			k, roots, f = Collect(h, []int{last, last})
			if f != fine || len(k.Words) != 2+room || !slices.Equal(roots, []int{4, 4}) {
				t.Error("one alone", byClass, back, k, roots, f)
			}
		}
	}
}

// full answers a heap of most words and of the longest things there can be,
// each of which holds all those behind it that it has slots for.
func full() (api.Heap, []int) {
	var things []thing
	for left := maxWords - 2; left > 0; left -= 3 + len(things[len(things)-1].slots) {
		x := thing{class: none, hash: len(things) + 1}
		for len(x.slots) < maxSize && 3+len(x.slots) < left {
			x.slots = append(x.slots, none)
		}
		things = append(things, x)
	}
	for i := range things {
		for at := range things[i].slots {
			if to := i + 1 + at; to < len(things) {
				things[i].slots[at] = to
			}
		}
	}
	return build(things, maxHash+1, inOrder(len(things)))
}

func TestFullHeaps(t *testing.T) {
	h, refs := full()
	if len(h.Words) != maxWords || heap.Check(h) != fine {
		t.Fatal(len(h.Words), heap.Check(h))
	}
	for i, o := range refs {
		k, roots, f := Collect(h, []int{o})
		if f != fine || len(k.Words) != maxWords-(3+maxSize)*i || !slices.Equal(roots, []int{4}) {
			t.Error(i, len(k.Words), roots, f)
		}
		holdD2(t, "full", h, []int{o})
	}
}

func TestManyRoots(t *testing.T) {
	roots, want := make([]int, 200000), make([]int, 200000)
	for i := range roots {
		roots[i], want[i] = []int{16, 10, 0, 7}[i%4], []int{10, 4, 0, 7}[i%4]
	}
	words := joined(before(), []int{0, 2, 0}, []int{0, 3, 0})
	collected{"many", words, roots, joined([]int{0, 9}, []int{0, 2, 0}, []int{0, 3, 0}), want}.hold(t)
	roots[199999] = 6
	k, others, f := Collect(api.Heap{Words: words}, roots)
	if f != fault(api.ErrKind, 199999) || len(k.Words) != 0 || len(others) != 0 {
		t.Error(k, len(others), f)
	}
}

func TestFaults(t *testing.T) {
	refused := func(words, roots []int, want api.Fault) {
		t.Helper()
		k, others, f := Collect(api.Heap{Words: words}, roots)
		if f != want || len(k.Words) != 0 || len(others) != 0 {
			t.Errorf("%v %v: %v %v %v, want %v", words, roots, k, others, f, want)
		}
	}
	// The fault of a heap is told first, also where roots are wrong.
	for _, roots := range [][]int{nil, {4}, {2}, {0, 1, 3999, 6}} {
		refused(nil, roots, fault(api.ErrSize, 0))
		refused([]int{}, roots, fault(api.ErrSize, 0))
		refused([]int{0}, roots, fault(api.ErrSize, 0))
		refused(make([]int, maxWords+1), roots, fault(api.ErrSize, 0))
		refused([]int{1, 1}, roots, fault(api.ErrForm, 0))
		refused([]int{0, 0}, roots, fault(api.ErrForm, 1))
		refused([]int{0, maxHash + 2}, roots, fault(api.ErrForm, 1))
		refused([]int{0, 2, 0, 1, 3}, roots, fault(api.ErrForm, 2))
		refused([]int{0, 2, 0, 1, 4}, roots, fault(api.ErrForm, 2))
		refused([]int{0, 3, 0, 1, 0, 0, 2}, roots, fault(api.ErrForm, 5))
		refused([]int{0, 2, 6, 1, 0}, roots, fault(api.ErrKind, 2))
		refused([]int{0, 2, 0, 2, 0}, roots, fault(api.ErrTwice, 2))
		refused([]int{0, 3, 0, 1, 0, 0, 1, 0}, roots, fault(api.ErrTwice, 5))
		// What is wrong may be of a thing that nobody comes to.
		refused([]int{0, 3, 0, 1, 0, 0, 2, 4, 6}, roots, fault(api.ErrKind, 8))
		refused([]int{0, 3, 0, 1, 0, 0, 2, 5, 256}, roots, fault(api.ErrKind, 8))
	}
	two := []int{0, 3, 0, 1, 0, 0, 2, 4, 0}
	for _, o := range []int{
		2, 6, 8, 12, 16, 18, 3998, 4000, -2, -4, mostOdd + 1, mostOdd + 2, leastOdd - 1, leastOdd - 2,
		math.MinInt, math.MinInt + 1, math.MaxInt - 1, math.MaxInt,
	} {
		refused(two, []int{o}, fault(api.ErrKind, 0))
		refused(two, []int{4, 10, 0, 1, o}, fault(api.ErrKind, 4))
		refused(two, []int{10, o, 2, o}, fault(api.ErrKind, 1))
		refused([]int{0, 1}, []int{0, o}, fault(api.ErrKind, 1))
	}
	refused([]int{0, 1}, []int{4}, fault(api.ErrKind, 0))
}

// Whatever the words and the roots are, each call ends, and where there is a
// fault (that of Reach) all else is zero.
func TestAnyWordsAndRoots(t *testing.T) {
	d := dice(2)
	odd := []int{
		math.MinInt, math.MaxInt, math.MinInt / 2, math.MaxInt / 2, -4, -1, 0, 1, 2, 3, 4, 5, 6, 8, 9, 10, 12, 16, 20,
		255, 256, 3998, 4000, 10001, 10002, leastOdd - 2, leastOdd, mostOdd, mostOdd + 2,
	}
	var faults int
	for range 20000 {
		n := 1 + d.below(5)
		things, numbers := d.scattered(n)
		h, refs := build(things, n+1, d.shuffled(n))
		roots := append(refsOf(refs, numbers), 0)
		for range 1 + d.below(2) {
			if d.below(2) == 0 {
				h.Words[d.below(len(h.Words))] = odd[d.below(len(odd))]
			} else {
				roots[d.below(len(roots))] = odd[d.below(len(odd))]
			}
		}
		_, want := reach.Reach(h, roots)
		k, others, f := Collect(h, roots)
		if f != want || f != fine && (len(k.Words) != 0 || len(others) != 0) {
			t.Fatal(h, roots, k, others, f, want)
		}
		if f == fine {
			holdD2(t, "any", h, roots)
		} else {
			faults++
		}
	}
	if faults < 3000 || faults > 17000 {
		t.Error("one-sided", faults)
	}
	for many := range 12 {
		for range 2000 {
			h := api.Heap{Words: make([]int, many)}
			for i := range h.Words {
				h.Words[i] = odd[d.below(len(odd))]
			}
			_, want := reach.Reach(h, h.Words)
			if _, _, f := Collect(h, h.Words); f != want {
				t.Fatal(h, f, want)
			}
		}
	}
}

// guarded answers a list with room behind its length, and a look at whether
// anything there or in the list has been changed.
func guarded(list []int) ([]int, func() bool) {
	whole := append(slices.Clone(list), 78, 78, 78, 78, 78, 78, 78, 78)
	before := slices.Clone(whole)
	return whole[:len(list)], func() bool { return slices.Equal(whole, before) }
}

// trample changes all that a list holds, also behind its length.
func trample(list []int) {
	list = list[:cap(list)]
	for i := range list {
		list[i] = -99
	}
}

func TestNothingIsChangedKeptOrShared(t *testing.T) {
	all := joined(before(), []int{18, 2, 4, 18}, []int{0, 3, 6, 4})
	for _, c := range []collected{
		{"some stay", all, []int{10, 1, 18}, joined([]int{0, 9}, []int{12, 2, 4, 12}, []int{0, 3, 6, 0}), []int{4, 1, 12}},
		{"all stay", all, []int{10, 4}, all, []int{10, 4}},
		{"none stays", all, []int{0, 1}, []int{0, 9}, []int{0, 1}},
		{"a fault", all, []int{10, 2}, nil, nil},
	} {
		words, sameWords := guarded(c.words)
		roots, sameRoots := guarded(c.roots)
		h := api.Heap{Words: words}
		k, others, _ := Collect(h, roots)
		again, same, _ := Collect(h, roots)
		if !sameWords() || !sameRoots() {
			t.Fatal(c.name, "changed", words, roots)
		}
		trample(k.Words)
		if !sameWords() || !sameRoots() || !slices.Equal(others, c.wanted) {
			t.Error(c.name, "the words are shared", words, roots, others)
		}
		trample(others)
		if !sameWords() || !sameRoots() {
			t.Error(c.name, "the roots are shared", words, roots)
		}
		trample(words)
		trample(roots)
		if !slices.Equal(again.Words, c.want) || !slices.Equal(same, c.wanted) {
			t.Error(c.name, "kept, or shared by two answers", again, same)
		}
	}
}

// The words and the roots may be one list.
func TestOneListForBoth(t *testing.T) {
	list := []int{0, 5, 0, 1, 0}
	h, roots, f := Collect(api.Heap{Words: list}, list[:3])
	if f != fine || !slices.Equal(h.Words, []int{0, 5}) || !slices.Equal(roots, []int{0, 5, 0}) {
		t.Error(h, roots, f)
	}
	trample(h.Words)
	if !slices.Equal(roots, []int{0, 5, 0}) || !slices.Equal(list, []int{0, 5, 0, 1, 0}) {
		t.Error("shared", roots, list)
	}
}
