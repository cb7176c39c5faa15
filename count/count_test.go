package count

import (
	"slices"
	"testing"

	"gesso/api"
	"gesso/heap"
	"gesso/reach"
	"gesso/sweep"
)

// The limits stand here as plain digits, so that a slip in how the program
// works them out is seen.
const (
	maxWords = 2000
	maxSize  = 60
	maxHash  = 10000
	mostOdd  = 2147483647
	leastOdd = -2147483647
)

var fine = api.Fault{}

// joined is a heap's words: the first two, then those of each thing.
func joined(parts ...[]int) []int { return slices.Concat(parts...) }

// front is the two words ahead of all things, where it does not matter which.
func front() []int { return []int{0, 9} }

// told is a heap with its roots, the counts of its things, and who is told by
// Trial.
type told struct {
	name         string
	words, roots []int
	counts, gone []int
}

func (c told) hold(t *testing.T) {
	t.Helper()
	h := api.Heap{Words: c.words}
	if counts, f := Counts(h, c.roots); f != fine || !slices.Equal(counts, c.counts) {
		t.Errorf("%s: Counts: %v %v, want %v", c.name, counts, f, c.counts)
	}
	if gone, f := Trial(h, c.roots); f != fine || !slices.Equal(gone, c.gone) {
		t.Errorf("%s: Trial: %v %v, want %v", c.name, gone, f, c.gone)
	}
	holdT3(t, c.name, h, c.roots)
}

// holdT3 asks all that T3 says of a heap and roots that may be, and that
// sweeping leaves nobody whom Trial tells.
func holdT3(t *testing.T, name string, h api.Heap, roots []int) {
	t.Helper()
	things, e := heap.Things(h)
	reached, f := reach.Reach(h, roots)
	counts, g := Counts(h, roots)
	gone, k := Trial(h, roots)
	if e != api.OK || f != fine || g != fine || k != fine || len(counts) != len(things) {
		t.Fatalf("%s: %v %v: %v %v %v %v, %d counts", name, h, roots, e, f, g, k, len(counts))
	}
	var others []int
	for i, o := range things {
		isReached := slices.Contains(reached, o)
		if !isReached {
			others = append(others, o)
		}
		if counts[i] < 0 || counts[i] == 0 && isReached {
			t.Errorf("%s: %v %v: %d has the count %d", name, h, roots, o, counts[i])
		}
	}
	if !slices.Equal(gone, others) {
		t.Errorf("%s: %v %v: Trial tells %v, not reached are %v", name, h, roots, gone, others)
	}
	left, stay, f := sweep.Collect(h, roots)
	if gone, g := Trial(left, stay); f != fine || g != fine || len(gone) != 0 {
		t.Errorf("%s: %v %v: when swept, Trial tells %v %v %v", name, h, roots, gone, f, g)
	}
}

func TestTheChaptersExample(t *testing.T) {
	two := []int{0, 3, 0, 1, 4, 12, 0, 2, 4, 4}
	for _, c := range []told{
		{"in no root", two, nil, []int{1, 1}, []int{4, 12}},
		{"the first one is a root", two, []int{4}, []int{2, 1}, nil},
		{"the second one is a root", two, []int{12}, []int{1, 2}, nil},
		{"both are roots", two, []int{12, 4}, []int{2, 2}, nil},
	} {
		c.hold(t)
	}
}

func TestNoThings(t *testing.T) {
	for _, c := range []told{
		{"no roots", []int{0, 1}, nil, nil, nil},
		{"empty roots", []int{0, 1}, []int{}, nil, nil},
		{"nil", []int{0, 1}, []int{0}, nil, nil},
		{"numbers and nil", []int{0, maxHash + 1}, []int{5, 0, leastOdd, mostOdd, 5, -1}, nil, nil},
	} {
		c.hold(t)
	}
}

func TestRootsCount(t *testing.T) {
	// Things of no slots, of one and of two: the references 4, 10 and 18.
	three := joined(front(), []int{0, 5, 0}, []int{0, 2, 4, 7}, []int{0, 8, 8, 0, 9})
	for _, c := range []told{
		{"no roots", three, nil, []int{0, 0, 0}, []int{4, 10, 18}},
		{"empty roots", three, []int{}, []int{0, 0, 0}, []int{4, 10, 18}},
		{"numbers and nil alone", three, []int{1, 0, mostOdd, leastOdd, 0, 5}, []int{0, 0, 0}, []int{4, 10, 18}},
		{"the first alone", three, []int{4}, []int{1, 0, 0}, []int{10, 18}},
		{"the one between alone", three, []int{10}, []int{0, 1, 0}, []int{4, 18}},
		{"the last alone", three, []int{18}, []int{0, 0, 1}, []int{4, 10}},
		{"the outer ones, turned", three, []int{18, 4}, []int{1, 0, 1}, []int{10}},
		{"all", three, []int{10, 4, 18}, []int{1, 1, 1}, nil},
		{"one twice", three, []int{10, 10}, []int{0, 2, 0}, []int{4, 18}},
		{"one twice, another one between", three, []int{18, 4, 18}, []int{1, 0, 2}, []int{10}},
		{"many times", three, []int{4, 18, 18, 10, 18, 4, 18}, []int{2, 1, 4}, nil},
		{"numbers and nil between", three, []int{5, 18, 0, 18, 19, 0, 11, 17}, []int{0, 0, 2}, []int{4, 10}},
	} {
		c.hold(t)
	}
}

func TestSlotsOfPlainCount(t *testing.T) {
	// 10 holds 32 and itself, beside numbers next to both, and nil.
	kinds := joined(front(), []int{0, 1, 0}, []int{0, 2, 32, 1, 32, 0, 10, mostOdd, leastOdd, 11, 33}, []int{0, 3, 0})
	for _, c := range []told{
		{
			"one slot of one thing",
			joined(front(), []int{0, 1, 4, 12}, []int{0, 2, 0}), []int{4},
			[]int{1, 1}, nil,
		},
		{
			"several slots of one thing",
			joined(front(), []int{0, 1, 16, 18, 7, 18, 18}, []int{0, 2, 0}), []int{4},
			[]int{1, 3}, nil,
		},
		{
			"several slots of one thing that nobody holds",
			joined(front(), []int{0, 1, 16, 18, 7, 18, 18}, []int{0, 2, 0}), nil,
			[]int{0, 3}, []int{4, 18},
		},
		{
			"one slot of several things",
			joined(front(), []int{0, 1, 4, 28}, []int{0, 2, 4, 28}, []int{0, 3, 4, 28}, []int{0, 4, 0}), []int{12},
			[]int{0, 1, 0, 3}, []int{4, 20},
		},
		{
			"several slots of several things, and roots",
			joined(front(), []int{0, 1, 8, 24, 24}, []int{0, 2, 8, 24, 4}, []int{0, 3, 0}), []int{24, 14, 24},
			[]int{1, 1, 5}, nil,
		},
		{"slots of all kinds", kinds, []int{10}, []int{0, 2, 1}, []int{4}},
		{"slots of all kinds, held by nobody", kinds, []int{4, 11}, []int{1, 1, 1}, []int{10, 32}},
		{
			"numbers and nil alone",
			joined(front(), []int{0, 1, 0}, []int{0, 2, 32, 3, 5, 9, 11, -5, -11, 0, 0}), []int{10, 11, 5, 0},
			[]int{0, 1}, []int{4},
		},
	} {
		c.hold(t)
	}
}

func TestClassesCount(t *testing.T) {
	own := joined(front(), []int{0, 1, 0}, []int{10, 2, 0})
	shared := joined(front(), []int{0, 1, 0}, []int{4, 2, 0}, []int{4, 3, 0})
	forms := joined(front(), []int{0, 1, 0}, []int{0, 2, 0}, []int{10, 3, 1}, []int{4, 4, 2})
	pair := joined(front(), []int{10, 1, 0}, []int{4, 2, 0})
	for _, c := range []told{
		{"its own class", own, []int{10}, []int{0, 2}, []int{4}},
		{"its own class, held by nobody", own, []int{4}, []int{1, 1}, []int{10}},
		{"the class of several", shared, []int{16}, []int{2, 0, 1}, []int{10}},
		{"the class of several, of which nobody is held", shared, nil, []int{2, 0, 0}, []int{4, 10, 16}},
		{"the class of several is the root", shared, []int{4}, []int{3, 0, 0}, []int{10, 16}},
		{"classes of Bytes and of Weak", forms, []int{16, 22}, []int{1, 1, 1, 1}, nil},
		{"the class of Bytes alone", forms, []int{16}, []int{1, 1, 1, 0}, []int{4, 22}},
		{"the class of Weak alone", forms, []int{22}, []int{1, 1, 0, 1}, []int{10, 16}},
		{
			"classes that are of Bytes and of Weak",
			joined(front(), []int{0, 1, 1}, []int{0, 2, 2}, []int{10, 3, 0}, []int{4, 4, 0}), []int{16},
			[]int{1, 1, 1, 0}, []int{4, 22},
		},
		{
			"its class in its slots, too",
			joined(front(), []int{0, 1, 0}, []int{0, 2, 0}, []int{4, 3, 12, 10, 4, 4}), []int{16},
			[]int{3, 1, 1}, nil,
		},
		{
			"its own class, and in its own slots",
			joined(front(), []int{4, 1, 8, 4, 4}), nil,
			[]int{3}, []int{4},
		},
		{
			"its own class, and in its own slots, and a root twice",
			joined(front(), []int{4, 1, 8, 4, 4}), []int{4, 4},
			[]int{5}, nil,
		},
		{
			"classes of classes",
			joined(front(), []int{0, 1, 0}, []int{4, 2, 0}, []int{10, 3, 0}, []int{16, 4, 0}), []int{16},
			[]int{1, 1, 2, 0}, []int{22},
		},
		{"two that are each other's class", pair, nil, []int{1, 1}, []int{4, 10}},
		{"two that are each other's class, and one a root", pair, []int{10}, []int{1, 2}, nil},
	} {
		c.hold(t)
	}
}

func TestSlotsOfBytesDoNotCount(t *testing.T) {
	// 10, 22 and 4 are references, too: of itself, and of both others.
	bytes := joined(front(), []int{0, 1, 0}, []int{0, 2, 13, 10, 22, 4}, []int{0, 3, 0})
	for _, c := range []told{
		{"no roots", bytes, nil, []int{0, 0, 0}, []int{4, 10, 22}},
		{"who has them is a root", bytes, []int{10}, []int{0, 1, 0}, []int{4, 22}},
		{"all are roots", bytes, []int{10, 4, 22}, []int{1, 1, 1}, nil},
		{
			"its class in its slots",
			joined(front(), []int{0, 1, 0}, []int{4, 2, 9, 4, 4}), []int{10},
			[]int{1, 1}, nil,
		},
		{
			"a Plain one leads to Bytes, and no further",
			joined(front(), []int{0, 1, 4, 12}, []int{0, 2, 9, 22, 4}, []int{0, 3, 0}), []int{4},
			[]int{1, 1, 0}, []int{22},
		},
	} {
		c.hold(t)
	}
}

func TestSlotsOfWeakDoNotCount(t *testing.T) {
	weak := joined(front(), []int{0, 1, 0}, []int{0, 2, 22, 4, 10, 26, 4, 7}, []int{0, 3, 0})
	for _, c := range []told{
		{"no roots", weak, nil, []int{0, 0, 0}, []int{4, 10, 26}},
		{"who has them is a root", weak, []int{10}, []int{0, 1, 0}, []int{4, 26}},
		{"one of them is a root, too", weak, []int{26, 10}, []int{0, 1, 1}, []int{4}},
		{
			"its class in its slots",
			joined(front(), []int{0, 1, 0}, []int{4, 2, 10, 4, 4}), []int{10},
			[]int{1, 1}, nil,
		},
		{
			"a Plain one leads to Weak, and no further",
			joined(front(), []int{0, 1, 4, 12}, []int{0, 2, 10, 22, 4}, []int{0, 3, 0}), []int{4},
			[]int{1, 1, 0}, []int{22},
		},
		{
			"a ring of a Plain one and a Weak one, the Plain one a root",
			joined(front(), []int{0, 1, 4, 12}, []int{0, 2, 6, 4}), []int{4},
			[]int{1, 1}, nil,
		},
		{
			"a ring of a Plain one and a Weak one, the Weak one a root",
			joined(front(), []int{0, 1, 4, 12}, []int{0, 2, 6, 4}), []int{12},
			[]int{0, 2}, []int{4},
		},
		{
			"two that hold each other weakly, one of them a root",
			joined(front(), []int{0, 1, 6, 12}, []int{0, 2, 6, 4}), []int{12},
			[]int{0, 1}, []int{4},
		},
	} {
		c.hold(t)
	}
}

func TestRowsThatAreHeld(t *testing.T) {
	// 4 holds 12, which holds 20, which holds 28.
	row := joined(front(), []int{0, 1, 4, 12}, []int{0, 2, 4, 20}, []int{0, 3, 4, 28}, []int{0, 4, 0})
	// The other way round: 26 holds 18, which holds 10, which holds 4.
	back := joined(front(), []int{0, 1, 0}, []int{0, 2, 4, 4}, []int{0, 3, 4, 10}, []int{0, 4, 4, 18})
	for _, c := range []told{
		{"held by one that is not held itself", row, nil, []int{0, 1, 1, 1}, []int{4, 12, 20, 28}},
		{"from the first on", row, []int{4}, []int{1, 1, 1, 1}, nil},
		{"from the second on", row, []int{12}, []int{0, 2, 1, 1}, []int{4}},
		{"the last alone", row, []int{28}, []int{0, 1, 1, 2}, []int{4, 12, 20}},
		{"back, held by one that is not held itself", back, nil, []int{1, 1, 1, 0}, []int{4, 10, 18, 26}},
		{"back, from the last on", back, []int{26}, []int{1, 1, 1, 1}, nil},
		{"back, from the third on", back, []int{18}, []int{1, 1, 2, 0}, []int{26}},
		{"back, the first alone", back, []int{4}, []int{2, 1, 1, 0}, []int{10, 18, 26}},
	} {
		c.hold(t)
	}
}

func TestRings(t *testing.T) {
	three := joined(front(), []int{0, 1, 4, 12}, []int{0, 2, 4, 20}, []int{0, 3, 4, 4})
	// 4 and 14 hold each other, 24 and 32 do, and 14 holds 24, too.
	hung := joined(front(), []int{0, 1, 8, 14, 0}, []int{0, 2, 8, 4, 24}, []int{0, 3, 4, 32}, []int{0, 4, 4, 24})
	// 4 is of the class 12, which holds 20, which is of the class 4.
	mixed := joined(front(), []int{12, 1, 4, 5}, []int{0, 2, 4, 20}, []int{4, 3, 0})
	for _, c := range []told{
		{"one that holds itself", joined(front(), []int{0, 1, 4, 4}), nil, []int{1}, []int{4}},
		{"one that holds itself, and is a root", joined(front(), []int{0, 1, 4, 4}), []int{4}, []int{2}, nil},
		{"three", three, nil, []int{1, 1, 1}, []int{4, 12, 20}},
		{"three, and numbers for roots", three, []int{5, 0, 13}, []int{1, 1, 1}, []int{4, 12, 20}},
		{"three, one of them a root", three, []int{20}, []int{1, 1, 2}, nil},
		{"a ring hangs on a ring", hung, nil, []int{1, 1, 2, 1}, []int{4, 14, 24, 32}},
		{"a ring hangs on a ring that a root holds", hung, []int{4}, []int{2, 1, 2, 1}, nil},
		{"a root holds the ring that hangs", hung, []int{32}, []int{1, 1, 2, 2}, []int{4, 14}},
		{"a ring of classes and slots", mixed, nil, []int{1, 1, 1}, []int{4, 12, 20}},
		{"a ring of classes and slots, one a root", mixed, []int{12}, []int{1, 2, 1}, nil},
		{
			"a ring that a thing holds which is not held itself",
			joined(three, []int{0, 4, 4, 12}, []int{0, 5, 0}), []int{36},
			[]int{1, 2, 1, 0, 1}, []int{4, 12, 20, 28},
		},
		{
			"a ring that holds a thing that is held",
			joined(front(), []int{0, 1, 8, 14, 22}, []int{0, 2, 4, 4}, []int{0, 3, 0}), []int{22, 22},
			[]int{1, 1, 3}, []int{4, 14},
		},
		{
			"two rings, of which the second one is held",
			joined(front(), []int{0, 1, 4, 12}, []int{0, 2, 4, 4}, []int{0, 3, 4, 28}, []int{0, 4, 4, 20}), []int{28},
			[]int{1, 1, 1, 2}, []int{4, 12},
		},
		{
			"two rings one into the other",
			joined(front(), []int{0, 1, 4, 20}, []int{0, 2, 4, 28}, []int{0, 3, 4, 4}, []int{0, 4, 4, 12}), []int{12},
			[]int{1, 2, 1, 1}, []int{4, 20},
		},
	} {
		c.hold(t)
	}
}

// What is held is found, in whatever order things lead on to each other, and
// what is told rises.
func TestTheOrderOfAnswers(t *testing.T) {
	// 4 and 28 hold nobody, 12 holds 42, 20 holds 4; 34 holds 20, 42 holds 28.
	words := joined(front(),
		[]int{0, 9, 4, 1}, []int{0, 8, 4, 42}, []int{0, 7, 4, 4}, []int{0, 6, 0}, []int{0, 5, 4, 20}, []int{0, 4, 4, 28})
	words[1] = 10
	for _, c := range []told{
		{"all", words, nil, []int{1, 0, 1, 1, 0, 1}, []int{4, 12, 20, 28, 34, 42}},
		{"one row is held", words, []int{34}, []int{1, 0, 1, 1, 1, 1}, []int{12, 28, 42}},
		{"the other row is held", words, []int{12}, []int{1, 1, 1, 1, 0, 1}, []int{4, 20, 34}},
		{"both rows are held", words, []int{12, 34}, []int{1, 1, 1, 1, 1, 1}, nil},
		{"roots falling", words, []int{42, 20}, []int{1, 0, 2, 1, 0, 2}, []int{12, 34}},
		{"roots rising", words, []int{20, 42}, []int{1, 0, 2, 1, 0, 2}, []int{12, 34}},
	} {
		c.hold(t)
	}
}
