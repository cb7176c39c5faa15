package tri

import (
	"math"
	"slices"
	"testing"

	"gesso/api"
	"gesso/heap"
)

func fault(code api.Errno, at int) api.Fault { return api.Fault{Code: code, At: at} }

func isZero(p api.Play) bool {
	return len(p.H.Words) == 0 && len(p.Roots) == 0 && len(p.Colours) == 0 && !p.Done && len(p.Freed) == 0
}

func TestFaults(t *testing.T) {
	refused := func(words, roots []int, want api.Fault) {
		t.Helper()
		for _, all := range [][]api.Op{nil, scans(2), ops(anew(0, 1), root(0, 0), put(4, 0, 1), api.Op{Kind: -1})} {
			p, f := Play(api.Heap{Words: words}, roots, all)
			if f != want || !isZero(p) {
				t.Errorf("%v %v %v: %v %v, want %v", words, roots, all, p, f, want)
			}
		}
	}
	// The fault of a heap is told first, also where roots are wrong.
	for _, roots := range [][]int{nil, {4}, {2}, {0, 1, 3999, 6}} {
		refused(nil, roots, fault(api.ErrSize, 0))
		refused([]int{}, roots, fault(api.ErrSize, 0))
		refused([]int{0}, roots, fault(api.ErrSize, 0))
		refused(make([]int, maxWords+1), roots, fault(api.ErrSize, 0))
		refused([]int{1, 1}, roots, fault(api.ErrForm, 0))
		refused([]int{0, 0}, roots, fault(api.ErrForm, 1))
		refused([]int{0, maxHash + 2}, roots, fault(api.ErrForm, 1))
		refused([]int{0, 2, 0, 1, 3}, roots, fault(api.ErrForm, 2))
		refused([]int{0, 2, 0, 1, 4}, roots, fault(api.ErrForm, 2))
		refused([]int{0, 3, 0, 1, 0, 0, 2}, roots, fault(api.ErrForm, 5))
		refused([]int{0, 2, 6, 1, 0}, roots, fault(api.ErrKind, 2))
		refused([]int{0, 2, 0, 2, 0}, roots, fault(api.ErrTwice, 2))
		refused([]int{0, 3, 0, 1, 0, 0, 1, 0}, roots, fault(api.ErrTwice, 5))
		// What is wrong may be of a thing that nobody comes to.
		refused([]int{0, 3, 0, 1, 0, 0, 2, 4, 6}, roots, fault(api.ErrKind, 8))
		refused([]int{0, 3, 0, 1, 0, 0, 2, 5, 256}, roots, fault(api.ErrKind, 8))
	}
	words := []int{0, 3, 0, 1, 0, 0, 2, 4, 0}
	for _, o := range []int{
		2, 6, 8, 12, 16, 18, 3998, 4000, -2, -4, mostOdd + 1, mostOdd + 2, leastOdd - 1, leastOdd - 2,
		math.MinInt, math.MinInt + 1, math.MaxInt - 1, math.MaxInt,
	} {
		refused(words, []int{o}, fault(api.ErrKind, 0))
		refused(words, []int{4, 10, 0, 1, o}, fault(api.ErrKind, 4))
		refused(words, []int{10, o, 2, o}, fault(api.ErrKind, 1))
		refused([]int{0, 1}, []int{0, o}, fault(api.ErrKind, 1))
	}
	// One that OpNew would lay is none yet.
	refused([]int{0, 1}, []int{4}, fault(api.ErrKind, 0))
}

// row answers a full heap of things, each of which leads on to the one ahead
// of it: by its class, or by its one slot.
func row(byClass bool) []int {
	words, before := []int{0, maxHash + 1}, 0
	for hash := 1; ; hash++ {
		x := []int{0, hash, 4, before}
		if byClass {
			x = []int{before, hash, 0}
		}
		if len(words)+len(x) > maxWords {
			return words
		}
		before = 2 * len(words)
		words = append(words, x...)
	}
}

// All things of a full heap are one long row, against which scans go.
func TestLongRows(t *testing.T) {
	for _, byClass := range []bool{true, false} {
		h := api.Heap{Words: row(byClass)}
		all, e := heap.Things(h)
		if many := len(all); e != api.OK || many != 666 && byClass || many != 499 && !byClass {
			t.Fatal(many, e)
		}
		many := len(all)
		last := []int{all[many-1]}
		for _, done := range []int{0, 1, 2, many / 2, many - 1, many, many + 1} {
			colours := make([]int, many)
			for i := range colours {
				switch behind := many - 1 - i; {
				case behind < done:
					colours[i] = black
				case behind == done:
					colours[i] = grey
				}
			}
			told{"a long row", h.Words, last, scans(done), colours, nil, nil, nil}.hold(t)
		}
		// The first one is known at the other end, until the row breaks.
		p, f := Play(h, append(last, 1), ops(root(1, 4), root(1, 1), root(0, 1), root(1, 4)))
		if f != fine || !slices.Equal(p.Roots, []int{1, 1}) || p.Colours[0] != grey || p.Colours[many-1] != grey || p.Colours[1] != white {
			t.Error(byClass, p.Roots, p.Colours, f)
		}
	}
}

func TestManyRootsAndOps(t *testing.T) {
	roots := make([]int, 200000)
	for i := range roots {
		roots[i] = []int{18, 4, 0, 7}[i%4]
	}
	// 4 holds 12; nobody holds 18 but roots.
	words := joined(front(), []int{0, 1, 4, 12}, []int{0, 2, 0}, []int{0, 3, 0})
	wanted := slices.Clone(roots)
	wanted[199999] = 12
	told{"many roots", words, roots, ops(root(199999, 12), root(200000, 12), scan()), []int{black, grey, grey}, nil, nil, wanted}.hold(t)
	roots[199999] = 6
	p, f := Play(api.Heap{Words: words}, roots, scans(1))
	if f != fault(api.ErrKind, 199999) || !isZero(p) {
		t.Error(len(p.Roots), f)
	}
	var all []api.Op
	for i := range 100000 {
		all = append(all, put(4, 0, 2*i+1), scan(), root(0, 4), put(4, 0, 12))
	}
	after := joined(front(), []int{0, 1, 4, 199999}, []int{0, 2, 0}, []int{0, 3, 0})
	told{"many ops", words, []int{4}, all, []int{black, black, white}, []int{18}, after, nil}.hold(t)
}

// guarded answers a list with room behind its length, and a look at whether
// anything there or in the list has been changed.
func guarded[T comparable](list []T, behind ...T) ([]T, func() bool) {
	whole := slices.Concat(list, behind)
	before := slices.Clone(whole)
	return whole[:len(list)], func() bool { return slices.Equal(whole, before) }
}

// trample changes all that a list holds, also behind its length.
func trample[T any](list []T, with T) {
	list = list[:cap(list)]
	for i := range list {
		list[i] = with
	}
}

func TestNothingIsChangedKeptOrShared(t *testing.T) {
	// 4 holds 14; 20 is held by nobody.
	first := joined(front(), []int{0, 1, 8, 14, 3}, []int{0, 2, 0}, []int{0, 3, 0})
	last := joined([]int{0, 10}, []int{0, 1, 8, 5, 3}, []int{0, 2, 0}, []int{0, 3, 0}, []int{0, 9, 4, 14})
	busy := ops(scan(), anew(0, 1), put(26, 0, 14), put(4, 0, 5), root(1, 14), scan())
	for _, c := range []told{
		{"all that ops do", first, []int{4, 1}, busy, []int{black, black, white, black}, []int{20}, last, []int{4, 14, 26}},
		{"no ops", first, []int{4, 1}, nil, []int{grey, white, white}, nil, first, []int{4, 1}},
		{"no ops, and done", first, []int{1}, nil, []int{white, white, white}, []int{4, 14, 20}, first, []int{1}},
		{"ops that may not be", first, []int{4}, ops(put(4, 0, 20), root(0, 20), root(1, 1), anew(3, 0)), []int{grey, white, white}, nil, first, []int{4}},
		{"a fault", first, []int{4, 2}, busy, nil, nil, nil, nil},
	} {
		words, sameWords := guarded(c.words, 0, 4, 0, 9, 4, 78, 78, 78, 78)
		roots, sameRoots := guarded(c.roots, 4, 14, 78, 78)
		all, sameOps := guarded(c.ops, scan(), scan(), anew(0, 0))
		unchanged := func() bool { return sameWords() && sameRoots() && sameOps() }
		h := api.Heap{Words: words}
		want := api.Play{H: api.Heap{Words: c.want}, Roots: c.wanted, Colours: c.colours, Freed: c.freed}
		want.Done = c.want != nil && !slices.Contains(c.colours, grey)
		p, _ := Play(h, roots, all)
		again, _ := Play(h, roots, all)
		if !unchanged() || !same(p, want) {
			t.Fatal(c.name, words, roots, all, p, want)
		}
		for i, list := range [][]int{p.H.Words, p.Roots, p.Colours, p.Freed} {
			trample(list, -99)
			left := [][]int{p.H.Words, p.Roots, p.Colours, p.Freed}
			right := [][]int{want.H.Words, want.Roots, want.Colours, want.Freed}
			if !unchanged() || !slices.EqualFunc(left[i+1:], right[i+1:], slices.Equal[[]int]) {
				t.Error(c.name, i, "is shared", words, roots, all, p)
			}
		}
		trample(words, -99)
		trample(roots, -99)
		trample(all, anew(0, 0))
		if !same(again, want) {
			t.Error(c.name, "kept, or shared by two answers", again)
		}
	}
}

// The words and the roots may be one list.
func TestOneListForBoth(t *testing.T) {
	list := []int{0, 5, 0, 1, 0}
	p, f := Play(api.Heap{Words: list}, list[:3], ops(anew(0, 0), root(1, 7), root(0, 10)))
	want := api.Play{
		H: api.Heap{Words: []int{0, 6, 0, 1, 0, 0, 5, 0}}, Roots: []int{10, 7, 0, 10},
		Colours: []int{white, black}, Done: true, Freed: []int{4},
	}
	if f != fine || !same(p, want) || !slices.Equal(list, []int{0, 5, 0, 1, 0}) {
		t.Error(p, f, list)
	}
}
