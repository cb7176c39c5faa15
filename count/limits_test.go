package count

import (
	"math"
	"slices"
	"testing"

	"gesso/api"
	"gesso/heap"
)

func fault(code api.Errno, at int) api.Fault { return api.Fault{Code: code, At: at} }

func TestFaults(t *testing.T) {
	refused := func(words, roots []int, want api.Fault) {
		t.Helper()
		if counts, f := Counts(api.Heap{Words: words}, roots); f != want || len(counts) != 0 {
			t.Errorf("Counts: %v %v: %v %v, want %v", words, roots, counts, f, want)
		}
		if gone, f := Trial(api.Heap{Words: words}, roots); f != want || len(gone) != 0 {
			t.Errorf("Trial: %v %v: %v %v, want %v", words, roots, gone, f, want)
		}
	}
	// The fault of a heap is told first, also where roots are wrong.
	for _, roots := range [][]int{nil, {4}, {2}, {0, 1, 3999, 6}} {
		refused(nil, roots, fault(api.ErrSize, 0))
		refused([]int{}, roots, fault(api.ErrSize, 0))
		refused([]int{0}, roots, fault(api.ErrSize, 0))
		refused(make([]int, maxWords+1), roots, fault(api.ErrSize, 0))
		refused([]int{1, 1}, roots, fault(api.ErrForm, 0))
		refused([]int{0, 0}, roots, fault(api.ErrForm, 1))
		refused([]int{0, maxHash + 2}, roots, fault(api.ErrForm, 1))
		refused([]int{0, 2, 0, 1, 3}, roots, fault(api.ErrForm, 2))
		refused([]int{0, 2, 0, 1, 4}, roots, fault(api.ErrForm, 2))
		refused([]int{0, 3, 0, 1, 0, 0, 2}, roots, fault(api.ErrForm, 5))
		refused([]int{0, 2, 6, 1, 0}, roots, fault(api.ErrKind, 2))
		refused([]int{0, 2, 5, 1, 0}, roots, fault(api.ErrKind, 2))
		refused([]int{0, 2, 0, 2, 0}, roots, fault(api.ErrTwice, 2))
		refused([]int{0, 3, 0, 1, 0, 0, 1, 0}, roots, fault(api.ErrTwice, 5))
		// What is wrong may be of a thing that nobody comes to.
		refused([]int{0, 3, 0, 1, 0, 0, 2, 4, 6}, roots, fault(api.ErrKind, 8))
		refused([]int{0, 3, 0, 1, 0, 0, 2, 5, 256}, roots, fault(api.ErrKind, 8))
		refused([]int{0, 3, 0, 1, 0, 0, 2, 6, 8}, roots, fault(api.ErrKind, 8))
	}
	two := []int{0, 3, 0, 1, 0, 0, 2, 4, 0}
	for _, o := range []int{
		2, 6, 8, 12, 16, 18, 3998, 4000, -2, -4, mostOdd + 1, mostOdd + 2, leastOdd - 1, leastOdd - 2,
		math.MinInt, math.MinInt + 1, math.MaxInt - 1, math.MaxInt,
	} {
		refused(two, []int{o}, fault(api.ErrKind, 0))
		refused(two, []int{4, 10, 0, 1, o}, fault(api.ErrKind, 4))
		refused(two, []int{10, o, 2, o}, fault(api.ErrKind, 1))
		refused([]int{0, 1}, []int{0, o}, fault(api.ErrKind, 1))
	}
	refused([]int{0, 1}, []int{4}, fault(api.ErrKind, 0))
}

// row answers a full heap of things, each of which leads on to the one ahead
// of it, by its class or by its one slot; and the reference of the last one.
func row(byClass bool) ([]int, int) {
	words, before := []int{0, maxHash + 1}, 0
	for hash := 1; ; hash++ {
		x := []int{0, hash, 4, before}
		if byClass {
			x = []int{before, hash, 0}
		}
		if len(words)+len(x) > maxWords {
			return words, before
		}
		before = 2 * len(words)
		words = append(words, x...)
	}
}

// All things of a full heap are one long row, and then one long ring.
func TestLongRows(t *testing.T) {
	for _, byClass := range []bool{true, false} {
		words, last := row(byClass)
		all, e := heap.Things(api.Heap{Words: words})
		many := len(all)
		if e != api.OK || byClass && many != 666 || !byClass && many != 499 {
			t.Fatal(many, e)
		}
		ones := slices.Repeat([]int{1}, many)
		free := slices.Clone(ones)
		free[many-1] = 0
		told{"a row that nobody holds", words, nil, free, all}.hold(t)
		told{"a row that a root holds", words, []int{last}, ones, nil}.hold(t)
		half := slices.Clone(free)
		half[many/2]++
		told{"a row that a root holds half", words, []int{all[many/2]}, half, all[many/2+1:]}.hold(t)
		if byClass {
			words[2] = last
		} else {
			words[5] = last
		}
		told{"a ring that nobody holds", words, []int{0, 5}, ones, all}.hold(t)
		ones[many/3]++
		told{"a ring that a root holds", words, []int{all[many/3]}, ones, nil}.hold(t)
	}
}

// A full heap of the longest things: the first one is the class of all, and
// stands in all slots.
func TestFullHeaps(t *testing.T) {
	words := []int{0, maxHash + 1}
	var all []int
	named := 0
	for left := maxWords - 2; left > 0; left = maxWords - len(words) {
		size := min(maxSize, left-3)
		all = append(all, 2*len(words))
		words = append(words, 4, maxHash+1-len(all), 4*size)
		words = append(words, slices.Repeat([]int{4}, size)...)
		named += 1 + size
	}
	if len(words) != maxWords || heap.Check(api.Heap{Words: words}) != fine || len(all) != 32 || named != 1934 {
		t.Fatal(len(words), len(all), named)
	}
	counts := make([]int, 32)
	counts[0] = 1934
	told{"nobody is held", words, nil, counts, all}.hold(t)
	counts[31] = 1
	told{"the last one is a root", words, []int{all[31]}, counts, all[1:31]}.hold(t)
}

func TestManyRoots(t *testing.T) {
	roots := make([]int, 200000)
	for i := range roots {
		roots[i] = []int{18, 4, 0, 7, 18}[i%5]
	}
	// 4 holds 12; nobody holds 24.
	words := joined(front(), []int{0, 1, 4, 12}, []int{0, 2, 0}, []int{0, 3, 0}, []int{0, 4, 0})
	told{"many", words, roots, []int{40000, 1, 80000, 0}, []int{24}}.hold(t)
	roots[199999] = 6
	h := api.Heap{Words: words}
	if counts, f := Counts(h, roots); f != fault(api.ErrKind, 199999) || len(counts) != 0 {
		t.Error(counts, f)
	}
	if gone, f := Trial(h, roots); f != fault(api.ErrKind, 199999) || len(gone) != 0 {
		t.Error(gone, f)
	}
}

// guarded answers a list with room behind its length, and a look at whether
// anything there or in the list has been changed.
func guarded(list []int) ([]int, func() bool) {
	whole := append(slices.Clone(list), 4, 12, 4, 78, 78, 78, 78, 78)
	before := slices.Clone(whole)
	return whole[:len(list)], func() bool { return slices.Equal(whole, before) }
}

// trample changes all that a list holds, also behind its length.
func trample(list []int) {
	list = list[:cap(list)]
	for i := range list {
		list[i] = -99
	}
}

func TestNothingIsChangedKeptOrShared(t *testing.T) {
	// 4 and 12 hold each other, and 20 is of the class 4.
	words := joined(front(), []int{0, 1, 4, 12}, []int{0, 2, 4, 4}, []int{4, 3, 0})
	for _, c := range []told{
		{"some are held", words, []int{12, 1}, []int{2, 2, 0}, []int{20}},
		{"all are held", words, []int{20, 20}, []int{2, 1, 2}, nil},
		{"none is held", words, []int{0}, []int{2, 1, 0}, []int{4, 12, 20}},
		{"no roots", words, nil, []int{2, 1, 0}, []int{4, 12, 20}},
		{"a fault of the roots", words, []int{4, 2}, nil, nil},
		{"a fault of the heap", words[:len(words)-1], []int{4}, nil, nil},
	} {
		words, sameWords := guarded(c.words)
		roots, sameRoots := guarded(c.roots)
		h := api.Heap{Words: words}
		counts, _ := Counts(h, roots)
		countsAgain, _ := Counts(h, roots)
		gone, _ := Trial(h, roots)
		goneAgain, _ := Trial(h, roots)
		if !sameWords() || !sameRoots() {
			t.Fatal(c.name, "changed", words, roots)
		}
		trample(counts)
		if !sameWords() || !sameRoots() || !slices.Equal(gone, c.gone) {
			t.Error(c.name, "the counts are shared", words, roots, gone)
		}
		trample(gone)
		if !sameWords() || !sameRoots() {
			t.Error(c.name, "what Trial tells is shared", words, roots)
		}
		trample(words)
		trample(roots)
		if !slices.Equal(countsAgain, c.counts) || !slices.Equal(goneAgain, c.gone) {
			t.Error(c.name, "kept, or shared by two answers", countsAgain, goneAgain)
		}
	}
}

// The words and the roots may be one list.
func TestOneListForBoth(t *testing.T) {
	list := []int{0, 5, 4, 1, 0}
	told{"one list", list, list[:3], []int{2}, nil}.hold(t)
	told{"a shorter one", list, list[:2], []int{1}, []int{4}}.hold(t)
	if !slices.Equal(list, []int{0, 5, 4, 1, 0}) {
		t.Error("changed", list)
	}
}
