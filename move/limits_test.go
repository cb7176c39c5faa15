package move

import (
	"math"
	"slices"
	"testing"

	"gesso/api"
	"gesso/heap"
)

func fault(code api.Errno, at int) api.Fault { return api.Fault{Code: code, At: at} }

func TestFaults(t *testing.T) {
	refused := func(words, roots []int, want api.Fault) {
		t.Helper()
		k, others, f := Collect(api.Heap{Words: words}, roots)
		if f != want || len(k.Words) != 0 || len(others) != 0 {
			t.Errorf("%v %v: %v %v %v, want %v", words, roots, k, others, f, want)
		}
	}
	// The fault of a heap is told first, also where roots are wrong.
	for _, roots := range [][]int{nil, {4}, {2}, {0, 1, 3999, 6}} {
		refused(nil, roots, fault(api.ErrSize, 0))
		refused([]int{}, roots, fault(api.ErrSize, 0))
		refused([]int{0}, roots, fault(api.ErrSize, 0))
		refused(make([]int, maxWords+1), roots, fault(api.ErrSize, 0))
		refused([]int{1, 1}, roots, fault(api.ErrForm, 0))
		refused([]int{0, 0}, roots, fault(api.ErrForm, 1))
		refused([]int{0, maxHash + 2}, roots, fault(api.ErrForm, 1))
		refused([]int{0, 2, 0, 1, 3}, roots, fault(api.ErrForm, 2))
		refused([]int{0, 2, 0, 1, 4}, roots, fault(api.ErrForm, 2))
		refused([]int{0, 3, 0, 1, 0, 0, 2}, roots, fault(api.ErrForm, 5))
		refused([]int{0, 2, 6, 1, 0}, roots, fault(api.ErrKind, 2))
		refused([]int{0, 2, 0, 2, 0}, roots, fault(api.ErrTwice, 2))
		refused([]int{0, 3, 0, 1, 0, 0, 1, 0}, roots, fault(api.ErrTwice, 5))
		// What is wrong may be of a thing that nobody comes to.
		refused([]int{0, 3, 0, 1, 0, 0, 2, 4, 6}, roots, fault(api.ErrKind, 8))
		refused([]int{0, 3, 0, 1, 0, 0, 2, 5, 256}, roots, fault(api.ErrKind, 8))
	}
	two := []int{0, 3, 0, 1, 0, 0, 2, 4, 0}
	for _, o := range []int{
		2, 6, 8, 12, 16, 18, 3998, 4000, -2, -4, mostOdd + 1, mostOdd + 2, leastOdd - 1, leastOdd - 2,
		math.MinInt, math.MinInt + 1, math.MaxInt - 1, math.MaxInt,
	} {
		refused(two, []int{o}, fault(api.ErrKind, 0))
		refused(two, []int{4, 10, 0, 1, o}, fault(api.ErrKind, 4))
		refused(two, []int{10, o, 2, o}, fault(api.ErrKind, 1))
		refused([]int{0, 1}, []int{0, o}, fault(api.ErrKind, 1))
	}
	refused([]int{0, 1}, []int{4}, fault(api.ErrKind, 0))
}

// row answers that many things, each of which leads on to the one ahead of it:
// by its class, or by its one slot.
func row(many int, byClass bool) []thing {
	things := make([]thing, many)
	for i := range things {
		things[i] = thing{class: none, hash: i + 1}
		if byClass {
			things[i].class = i - 1
		} else {
			things[i].slots = []int{i - 1}
		}
	}
	return things
}

// All things of a full heap are one long row, and are turned round.
func TestLongRows(t *testing.T) {
	for _, byClass := range []bool{true, false} {
		many, room := 499, 4
		if byClass {
			many, room = 666, 3
		}
		things := row(many, byClass)
		h, refs := build(things, maxHash+1, inOrder(many))
		if len(h.Words) != 2+many*room || len(h.Words) < maxWords-room || heap.Check(h) != fine {
			t.Fatal(len(h.Words), heap.Check(h))
		}
		backwards := inOrder(many)
		slices.Reverse(backwards)
		want, _ := build(things, maxHash+1, backwards)
		k, roots, f := Collect(h, []int{refs[many-1]})
		if f != fine || !slices.Equal(k.Words, want.Words) || !slices.Equal(roots, []int{4}) {
			t.Error(byClass, k, roots, f)
		}
		holdR1(t, things, maxHash+1, inOrder(many), []int{many - 1})
		holdR1(t, things, maxHash+1, inOrder(many), []int{many / 2, many - 1})
		holdR1(t, things, maxHash+1, inOrder(many), []int{0, many - 2})
	}
}

// full answers things that take all words there can be, of the longest ones,
// each of which holds all those ahead of it that it has slots for.
func full() []thing {
	var things []thing
	for left := maxWords - 2; left > 0; left -= 3 + len(things[len(things)-1].slots) {
		x := thing{class: none, hash: maxHash - len(things)}
		for len(x.slots) < maxSize && 3+len(x.slots) < left {
			x.slots = append(x.slots, len(things)-1-len(x.slots))
		}
		for at := range x.slots {
			x.slots[at] = max(x.slots[at], none)
		}
		things = append(things, x)
	}
	return things
}

func TestFullHeaps(t *testing.T) {
	things := full()
	many := len(things)
	h, refs := build(things, maxHash+1, inOrder(many))
	if len(h.Words) != maxWords || heap.Check(h) != fine {
		t.Fatal(len(h.Words), heap.Check(h))
	}
	k, roots, f := Collect(h, []int{refs[many-1]})
	if f != fine || len(k.Words) != maxWords || !slices.Equal(roots, []int{4}) {
		t.Error(len(k.Words), roots, f)
	}
	for i := range things {
		holdR1(t, things, maxHash+1, inOrder(many), []int{i})
		holdR1(t, things, maxHash+1, inOrder(many), []int{many - 1 - i, i})
	}
}

func TestManyRoots(t *testing.T) {
	roots, want := make([]int, 200000), make([]int, 200000)
	for i := range roots {
		roots[i], want[i] = []int{16, 10, 0, 7}[i%4], []int{4, 10, 0, 7}[i%4]
	}
	words := joined(front(), []int{0, 1, 0}, []int{0, 2, 0}, []int{0, 3, 0})
	told{"many", words, roots, joined(front(), []int{0, 3, 0}, []int{0, 2, 0}), want}.hold(t)
	roots[199999] = 6
	k, others, f := Collect(api.Heap{Words: words}, roots)
	if f != fault(api.ErrKind, 199999) || len(k.Words) != 0 || len(others) != 0 {
		t.Error(k, len(others), f)
	}
}

// guarded answers a list with room behind its length, and a look at whether
// anything there or in the list has been changed.
func guarded(list []int) ([]int, func() bool) {
	whole := append(slices.Clone(list), 4, 10, 78, 78, 78, 78, 78, 78)
	before := slices.Clone(whole)
	return whole[:len(list)], func() bool { return slices.Equal(whole, before) }
}

// trample changes all that a list holds, also behind its length.
func trample(list []int) {
	list = list[:cap(list)]
	for i := range list {
		list[i] = -99
	}
}

func TestNothingIsChangedKeptOrShared(t *testing.T) {
	all := joined(front(), []int{0, 1, 0}, []int{18, 2, 4, 18}, []int{0, 3, 6, 4})
	for _, c := range []told{
		{"some are moved", all, []int{18, 1, 10}, joined(front(), []int{0, 3, 6, 0}, []int{4, 2, 4, 4}), []int{4, 1, 12}},
		{"all are moved, and stay as they are", all, []int{4, 10}, all, []int{4, 10}},
		{"all are moved", all, []int{10, 4}, joined(front(), []int{18, 2, 4, 18}, []int{0, 1, 0}, []int{0, 3, 6, 12}), []int{4, 12}},
		{"none is moved", all, []int{0, 1}, front(), []int{0, 1}},
		{"a fault", all, []int{10, 2}, nil, nil},
	} {
		words, sameWords := guarded(c.words)
		roots, sameRoots := guarded(c.roots)
		h := api.Heap{Words: words}
		k, others, _ := Collect(h, roots)
		again, same, _ := Collect(h, roots)
		if !sameWords() || !sameRoots() {
			t.Fatal(c.name, "changed", words, roots)
		}
		trample(k.Words)
		if !sameWords() || !sameRoots() || !slices.Equal(others, c.wanted) {
			t.Error(c.name, "the words are shared", words, roots, others)
		}
		trample(others)
		if !sameWords() || !sameRoots() {
			t.Error(c.name, "the roots are shared", words, roots)
		}
		trample(words)
		trample(roots)
		if !slices.Equal(again.Words, c.want) || !slices.Equal(same, c.wanted) {
			t.Error(c.name, "kept, or shared by two answers", again, same)
		}
	}
}

// The words and the roots may be one list.
func TestOneListForBoth(t *testing.T) {
	list := []int{0, 5, 0, 1, 0}
	h, roots, f := Collect(api.Heap{Words: list}, list[:3])
	if f != fine || !slices.Equal(h.Words, []int{0, 5}) || !slices.Equal(roots, []int{0, 5, 0}) {
		t.Error(h, roots, f)
	}
	trample(h.Words)
	if !slices.Equal(roots, []int{0, 5, 0}) || !slices.Equal(list, []int{0, 5, 0, 1, 0}) {
		t.Error("shared", roots, list)
	}
}
