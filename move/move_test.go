package move

import (
	"slices"
	"testing"

	"gesso/api"
	"gesso/heap"
	"gesso/reach"
	"gesso/sweep"
)

// The limits stand here as plain digits, so that a slip in how the program
// works them out is seen.
const (
	maxWords = 2000
	maxSize  = 60
	maxHash  = 10000
	mostOdd  = 2147483647
	leastOdd = -2147483647
)

var fine = api.Fault{}

// told is a heap with its roots, and what is to come of both.
type told struct {
	name         string
	words, roots []int
	want, wanted []int
}

func (c told) hold(t *testing.T) {
	t.Helper()
	h := api.Heap{Words: c.words}
	k, others, f := Collect(h, c.roots)
	if f != fine || !slices.Equal(k.Words, c.want) || !slices.Equal(others, c.wanted) {
		t.Errorf("%s: %v %v %v, want %v %v", c.name, k.Words, others, f, c.want, c.wanted)
	}
	holdR2(t, c.name, h, c.roots)
}

// holdR2 asks all that R2 says of what comes of h and roots.
func holdR2(t *testing.T, name string, h api.Heap, roots []int) {
	t.Helper()
	k, others, f := Collect(h, roots)
	if f != fine {
		t.Errorf("%s: %v", name, f)
		return
	}
	if f := heap.Check(k); f != fine {
		t.Errorf("%s: what comes out may not be: %v %v", name, k.Words, f)
	}
	if is, f := reach.Alike(h, roots, k, others); !is || f != fine {
		t.Errorf("%s: not alike: %v %v and %v %v: %v", name, h.Words, roots, k.Words, others, f)
	}
	if left, _, f := sweep.Collect(h, roots); f != fine || len(left.Words) != len(k.Words) {
		t.Errorf("%s: %d words, sweep leaves %d: %v", name, len(k.Words), len(left.Words), f)
	}
	again, same, f := Collect(k, others)
	if f != fine || !slices.Equal(again.Words, k.Words) || !slices.Equal(same, others) {
		t.Errorf("%s: once more: %v %v %v, was %v %v", name, again.Words, same, f, k.Words, others)
	}
}

// joined is a heap's words: the first two, then those of each thing.
func joined(parts ...[]int) []int { return slices.Concat(parts...) }

// front is the two words ahead of all things, where it does not matter which.
func front() []int { return []int{0, 9} }

func TestTheChaptersExample(t *testing.T) {
	told{
		"the second one's slot is the first one",
		[]int{0, 3, 0, 1, 4, 0, 0, 2, 4, 4}, []int{12},
		[]int{0, 3, 0, 2, 4, 12, 0, 1, 4, 0}, []int{4},
	}.hold(t)
}

func TestNoThings(t *testing.T) {
	for _, c := range []told{
		{"no roots", []int{0, 1}, nil, []int{0, 1}, nil},
		{"empty roots", []int{0, 1}, []int{}, []int{0, 1}, nil},
		{"nil", []int{0, 1}, []int{0}, []int{0, 1}, []int{0}},
		{"numbers and nil", []int{0, 7}, []int{5, 0, leastOdd, mostOdd, 5, -1}, []int{0, 7}, []int{5, 0, leastOdd, mostOdd, 5, -1}},
	} {
		c.hold(t)
	}
}

func TestThingsOfTheRootsComeInOrder(t *testing.T) {
	// Things of no slots, of one and of two: the references 4, 10 and 18.
	x, y, z := []int{0, 5, 0}, []int{0, 2, 4, 7}, []int{0, 8, 8, 0, 9}
	three := joined(front(), x, y, z)
	for _, c := range []told{
		{"no roots", three, nil, front(), nil},
		{"numbers and nil alone", three, []int{1, 0, mostOdd, leastOdd}, front(), []int{1, 0, mostOdd, leastOdd}},
		{"as they stand", three, []int{4, 10, 18}, three, []int{4, 10, 18}},
		{"the other way round", three, []int{18, 10, 4}, joined(front(), z, y, x), []int{4, 14, 22}},
		{"the one between first", three, []int{10, 18, 4}, joined(front(), y, z, x), []int{4, 12, 22}},
		{"the first alone", three, []int{4}, joined(front(), x), []int{4}},
		{"the one between alone", three, []int{10}, joined(front(), y), []int{4}},
		{"the last alone", three, []int{18}, joined(front(), z), []int{4}},
		{"the outer ones", three, []int{4, 18}, joined(front(), x, z), []int{4, 10}},
		{"the outer ones, turned", three, []int{18, 4}, joined(front(), z, x), []int{4, 14}},
		{"one twice", three, []int{18, 18}, joined(front(), z), []int{4, 4}},
		{"one twice, another one between", three, []int{18, 10, 18}, joined(front(), z, y), []int{4, 14, 4}},
		{"the first time counts", three, []int{10, 18, 10, 18, 4, 10}, joined(front(), y, z, x), []int{4, 12, 4, 12, 22, 4}},
		{
			"numbers and nil between", three, []int{5, 18, 0, 4, leastOdd, 18, 0, mostOdd},
			joined(front(), z, x), []int{5, 4, 0, 14, leastOdd, 4, 0, mostOdd},
		},
	} {
		c.hold(t)
	}
}

func TestThingByThing(t *testing.T) {
	for _, c := range []told{
		{
			// 4 is of the class 20, and holds 26 and 14.
			"its class, then its slots in order",
			joined(front(), []int{20, 1, 8, 26, 14}, []int{0, 2, 0}, []int{0, 3, 0}, []int{0, 4, 0}), []int{4},
			joined(front(), []int{14, 1, 8, 20, 26}, []int{0, 3, 0}, []int{0, 4, 0}, []int{0, 2, 0}), []int{4},
		},
		{
			// 4 holds 20, which holds 28; 12 holds 34.
			"all of the roots ahead of what the first one holds",
			joined(front(), []int{0, 1, 4, 20}, []int{0, 2, 4, 34}, []int{0, 3, 4, 28}, []int{0, 4, 0}, []int{0, 5, 0}), []int{4, 12},
			joined(front(), []int{0, 1, 4, 20}, []int{0, 2, 4, 28}, []int{0, 3, 4, 34}, []int{0, 5, 0}, []int{0, 4, 0}), []int{4, 12},
		},
		{
			"as they stand in the new heap, not in the old one",
			joined(front(), []int{0, 1, 4, 20}, []int{0, 2, 4, 26}, []int{0, 3, 0}, []int{0, 4, 0}), []int{12, 4},
			joined(front(), []int{0, 2, 4, 20}, []int{0, 1, 4, 26}, []int{0, 4, 0}, []int{0, 3, 0}), []int{4, 12},
		},
		{
			// The root 10 is of the class 18, which is of 26; 18 holds 4.
			"classes of classes ahead of what those hold",
			joined(front(), []int{0, 1, 0}, []int{18, 2, 4, 4}, []int{26, 3, 4, 4}, []int{0, 4, 0}), []int{10},
			joined(front(), []int{12, 2, 4, 20}, []int{26, 3, 4, 20}, []int{0, 1, 0}, []int{0, 4, 0}), []int{4},
		},
		{
			"a root that another one holds ahead of it",
			joined(front(), []int{0, 1, 4, 18}, []int{0, 2, 0}, []int{0, 3, 0}), []int{4, 12, 18},
			joined(front(), []int{0, 1, 4, 18}, []int{0, 2, 0}, []int{0, 3, 0}), []int{4, 12, 18},
		},
		{
			"one slot twice",
			joined(front(), []int{0, 1, 0}, []int{0, 2, 12, 22, 4, 22}, []int{0, 3, 0}), []int{10},
			joined(front(), []int{0, 2, 12, 16, 22, 16}, []int{0, 3, 0}, []int{0, 1, 0}), []int{4},
		},
		{
			"its class in a slot, too",
			joined(front(), []int{0, 1, 0}, []int{0, 2, 0}, []int{4, 3, 8, 10, 4}), []int{16},
			joined(front(), []int{14, 3, 8, 20, 14}, []int{0, 1, 0}, []int{0, 2, 0}), []int{4},
		},
		{
			"slots of all kinds",
			joined(front(), []int{0, 1, 0}, []int{4, 2, 24, 1, 28, 0, 10, mostOdd, leastOdd}, []int{0, 3, 0}), []int{10, 3},
			joined(front(), []int{22, 2, 24, 1, 28, 0, 4, mostOdd, leastOdd}, []int{0, 1, 0}, []int{0, 3, 0}), []int{4, 3},
		},
	} {
		c.hold(t)
	}
}

func TestClasses(t *testing.T) {
	for _, c := range []told{
		{
			"its own class",
			joined(front(), []int{0, 1, 0}, []int{10, 2, 0}), []int{10},
			joined(front(), []int{4, 2, 0}), []int{4},
		},
		{
			"a class that is reached by its things alone",
			joined(front(), []int{0, 1, 0}, []int{4, 2, 0}, []int{4, 3, 0}), []int{16, 10},
			joined(front(), []int{16, 3, 0}, []int{16, 2, 0}, []int{0, 1, 0}), []int{4, 10},
		},
		{
			"classes of Bytes and of Weak",
			joined(front(), []int{0, 1, 0}, []int{0, 2, 0}, []int{10, 3, 1}, []int{4, 4, 2}), []int{16, 22},
			joined(front(), []int{16, 3, 1}, []int{22, 4, 2}, []int{0, 2, 0}, []int{0, 1, 0}), []int{4, 10},
		},
		{
			"classes that are of Bytes and of Weak",
			joined(front(), []int{0, 1, 1}, []int{0, 2, 2}, []int{10, 3, 0}, []int{4, 4, 0}), []int{16, 22},
			joined(front(), []int{16, 3, 0}, []int{22, 4, 0}, []int{0, 2, 2}, []int{0, 1, 1}), []int{4, 10},
		},
		{
			"two that are each other's class",
			joined(front(), []int{10, 1, 0}, []int{4, 2, 0}), []int{10},
			joined(front(), []int{10, 2, 0}, []int{4, 1, 0}), []int{4},
		},
	} {
		c.hold(t)
	}
}

func TestRings(t *testing.T) {
	ring := joined(front(), []int{0, 1, 4, 12}, []int{0, 2, 4, 20}, []int{0, 3, 4, 4})
	for _, c := range []told{
		{
			"one that holds itself",
			joined(front(), []int{0, 1, 0}, []int{0, 2, 4, 10}), []int{10},
			joined(front(), []int{0, 2, 4, 4}), []int{4},
		},
		{
			"one that holds itself twice, and is its own class",
			joined(front(), []int{0, 1, 0}, []int{10, 2, 8, 10, 10}), []int{10, 10},
			joined(front(), []int{4, 2, 8, 4, 4}), []int{4, 4},
		},
		{"from its first one on", ring, []int{4}, ring, []int{4}},
		{
			"from its second one on", ring, []int{12},
			joined(front(), []int{0, 2, 4, 12}, []int{0, 3, 4, 20}, []int{0, 1, 4, 4}), []int{4},
		},
		{
			"from its last one on", ring, []int{20},
			joined(front(), []int{0, 3, 4, 12}, []int{0, 1, 4, 20}, []int{0, 2, 4, 4}), []int{4},
		},
		{
			"against its way", ring, []int{20, 12},
			joined(front(), []int{0, 3, 4, 20}, []int{0, 2, 4, 4}, []int{0, 1, 4, 12}), []int{4, 12},
		},
		{"a ring that nobody comes to", ring, []int{0}, front(), []int{0}},
		{
			"a ring of which nobody is held but by a thing that stays behind",
			joined(ring, []int{0, 4, 4, 4}, []int{0, 5, 0}), []int{36},
			joined(front(), []int{0, 5, 0}), []int{4},
		},
	} {
		c.hold(t)
	}
}

func TestSlotsOfBytes(t *testing.T) {
	for _, c := range []told{
		{
			// 10, 22 and 4 are references, too: of itself, of one that moves,
			// and of one that stays behind.
			"bytes that are references",
			joined(front(), []int{0, 1, 0}, []int{0, 2, 13, 10, 22, 4}, []int{0, 3, 0}), []int{22, 10},
			joined(front(), []int{0, 3, 0}, []int{0, 2, 13, 10, 22, 4}), []int{4, 10},
		},
		{
			"bytes move nobody",
			joined(front(), []int{0, 1, 0}, []int{0, 2, 5, 18}, []int{0, 3, 0}), []int{10},
			joined(front(), []int{0, 2, 5, 18}), []int{4},
		},
		{
			"the least and the most",
			joined(front(), []int{0, 1, 0}, []int{0, 2, 17, 0, 1, 254, 255}), []int{10},
			joined(front(), []int{0, 2, 17, 0, 1, 254, 255}), []int{4},
		},
	} {
		c.hold(t)
	}
}

func TestSlotsOfWeak(t *testing.T) {
	// 4 is of nobody's slots but of the Weak one's at 10.
	weak := joined(front(), []int{0, 1, 0}, []int{0, 2, 6, 4}, []int{0, 3, 0})
	for _, c := range []told{
		{"one that is not moved", weak, []int{10}, joined(front(), []int{0, 2, 6, 0}), []int{4}},
		{
			// 18 comes to stand at the place where 4 stood.
			"another one stands at its place", weak, []int{18, 10},
			joined(front(), []int{0, 3, 0}, []int{0, 2, 6, 0}), []int{4, 10},
		},
		{"one that is moved ahead of it", weak, []int{4, 10}, joined(front(), []int{0, 1, 0}, []int{0, 2, 6, 4}), []int{4, 10}},
		{"one that is moved behind it", weak, []int{10, 4}, joined(front(), []int{0, 2, 6, 12}, []int{0, 1, 0}), []int{4, 12}},
		{
			"one that comes far behind it", weak, []int{10, 18, 4},
			joined(front(), []int{0, 2, 6, 18}, []int{0, 3, 0}, []int{0, 1, 0}), []int{4, 12, 18},
		},
		{
			"who is in a slot of Weak first is not moved first",
			joined(front(), []int{0, 1, 0}, []int{0, 2, 10, 20, 4}, []int{0, 3, 0}), []int{10, 4, 20},
			joined(front(), []int{0, 2, 10, 20, 14}, []int{0, 1, 0}, []int{0, 3, 0}), []int{4, 14, 20},
		},
		{
			"one that its class holds",
			joined(front(), []int{12, 1, 6, 20}, []int{0, 2, 4, 20}, []int{0, 3, 0}), []int{4},
			joined(front(), []int{12, 1, 6, 20}, []int{0, 2, 4, 20}, []int{0, 3, 0}), []int{4},
		},
		{
			"its class",
			joined(front(), []int{0, 1, 0}, []int{4, 2, 6, 4}), []int{10},
			joined(front(), []int{12, 2, 6, 12}, []int{0, 1, 0}), []int{4},
		},
		{
			"one that is held by one that is not moved",
			joined(front(), []int{0, 1, 6, 20}, []int{0, 2, 4, 20}, []int{0, 3, 0}), []int{4},
			joined(front(), []int{0, 1, 6, 0}), []int{4},
		},
		{
			"Plain leads to Weak, and no further",
			joined(front(), []int{0, 1, 0}, []int{0, 2, 6, 4}, []int{0, 3, 4, 10}), []int{18},
			joined(front(), []int{0, 3, 4, 12}, []int{0, 2, 6, 0}), []int{4},
		},
		{
			"itself, nil and numbers",
			joined(front(), []int{0, 1, 0}, []int{0, 2, 22, 10, 0, 1, mostOdd, leastOdd}), []int{10},
			joined(front(), []int{0, 2, 22, 4, 0, 1, mostOdd, leastOdd}), []int{4},
		},
		{
			"two that hold each other weakly, one of them moved",
			joined(front(), []int{0, 1, 6, 12}, []int{0, 2, 6, 4}), []int{12},
			joined(front(), []int{0, 2, 6, 0}), []int{4},
		},
		{
			"two that hold each other weakly, both moved",
			joined(front(), []int{0, 1, 6, 12}, []int{0, 2, 6, 4}), []int{12, 4},
			joined(front(), []int{0, 2, 6, 12}, []int{0, 1, 6, 4}), []int{4, 12},
		},
	} {
		c.hold(t)
	}
}

func TestNumbersInSlotsStay(t *testing.T) {
	// 3, 5 and 11 are next to references of things, and stay all the same.
	for _, form := range []int{api.Plain, api.Weak} {
		told{
			"numbers",
			joined(front(), []int{0, 1, 0}, []int{0, 2, 32 + form, 3, 5, 9, 11, -5, -11, mostOdd, leastOdd}), []int{10, 11, -3},
			joined(front(), []int{0, 2, 32 + form, 3, 5, 9, 11, -5, -11, mostOdd, leastOdd}), []int{4, 11, -3},
		}.hold(t)
	}
}

func TestTheFirstTwoWordsStay(t *testing.T) {
	for _, next := range []int{3, 4, 77, maxHash, maxHash + 1} {
		two := []int{0, next, 0, 1, 0, 0, 2, 0}
		for _, c := range []told{
			{"none is moved", two, nil, []int{0, next}, nil},
			{"one is moved", two, []int{10}, []int{0, next, 0, 2, 0}, []int{4}},
			{"both are moved", two, []int{10, 4}, []int{0, next, 0, 2, 0, 0, 1, 0}, []int{4, 10}},
		} {
			c.hold(t)
		}
	}
	told{
		"the highest hash",
		[]int{0, maxHash + 1, 0, 1, 0, 0, maxHash, 0}, []int{10},
		[]int{0, maxHash + 1, 0, maxHash, 0}, []int{4},
	}.hold(t)
}
