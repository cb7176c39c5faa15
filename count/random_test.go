package count

import (
	"math"
	"slices"
	"testing"

	"gesso/api"
	"gesso/reach"
)

// dice are numbers from a fixed rule.
type dice uint64

func (d *dice) below(n int) int {
	*d = *d*6364136223846793005 + 1442695040888963407
	return int(uint64(*d)>>33) % n
}

// anyone answers one of refs, or nil, or a small reference.
func (d *dice) anyone(refs []int) int {
	switch d.below(4) {
	case 0:
		return 0
	case 1:
		return 2*d.below(40) - 39
	}
	return refs[d.below(len(refs))]
}

// scattered answers a heap of n things, and some roots.
func (d *dice) scattered(n int) (api.Heap, []int) {
	sizes, refs := make([]int, n), make([]int, n)
	place := 2
	for i := range n {
		sizes[i], refs[i] = d.below(4), 2*place
		place += 3 + sizes[i]
	}
	words := []int{0, n + 1 + d.below(3)}
	for i, size := range sizes {
		class, form := 0, d.below(4)%3
		if d.below(4) == 0 {
			class = refs[d.below(n)]
		}
		words = append(words, class, n-i, 4*size+form)
		for range size {
			what := d.anyone(refs)
			if form == api.Bytes {
				what &= 255
			}
			words = append(words, what)
		}
	}
	var roots []int
	for range d.below(5) {
		roots = append(roots, d.anyone(refs))
	}
	return api.Heap{Words: words}, roots
}

func TestAgainstTheChapter(t *testing.T) {
	d := dice(1)
	var no, all, some, rings int
	for range 8000 {
		n := 1 + d.below(10)
		h, roots := d.scattered(n)
		holdAgainstBare(t, h, roots)
		counts, _ := Counts(h, roots)
		gone, _ := Trial(h, roots)
		switch len(gone) {
		case 0:
			no++
		case n:
			all++
		default:
			some++
		}
		// More are told than counts alone can tell.
		if len(gone) > times(0, counts) {
			rings++
		}
	}
	if no < 300 || all < 300 || some < 300 || rings < 1500 {
		t.Error("one-sided", no, all, some, rings)
	}
}

func TestGreatHeapsAgainstTheChapter(t *testing.T) {
	d := dice(3)
	for range 40 {
		h, roots := d.scattered(60 + d.below(60))
		holdAgainstBare(t, h, roots)
	}
}

// In which order roots stand is not told; one more is one more for its thing,
// and lets nobody go.
func TestRootsInAnyOrder(t *testing.T) {
	d := dice(5)
	for range 2000 {
		h, roots := d.scattered(1 + d.below(8))
		counts, _ := Counts(h, roots)
		gone, _ := Trial(h, roots)
		turned := slices.Clone(roots)
		slices.Reverse(turned)
		same, _ := Counts(h, turned)
		others, _ := Trial(h, turned)
		if !slices.Equal(counts, same) || !slices.Equal(gone, others) {
			t.Fatal(h, roots, counts, same, gone, others)
		}
		for i, at := range (bare{words: h.Words}).places() {
			more, _ := Counts(h, append(slices.Clone(roots), 2*at))
			fewer, _ := Trial(h, append(slices.Clone(roots), 2*at))
			counts[i]++
			if !slices.Equal(more, counts) || slices.Contains(fewer, 2*at) {
				t.Fatal(h, roots, at, more, counts, fewer)
			}
			counts[i]--
			for _, o := range fewer {
				if !slices.Contains(gone, o) {
					t.Fatal(h, roots, at, o, gone)
				}
			}
		}
	}
}

// choices calls visit with the words of each thing of that hash that has one
// slot, where two things stand at 4 and 12.
func choices(hash int, visit func(x []int)) {
	for _, class := range []int{0, 4, 12} {
		for _, slot := range []int{0, 5, 4, 12} {
			visit([]int{class, hash, 4 + api.Plain, slot})
			visit([]int{class, hash, 4 + api.Bytes, slot})
			visit([]int{class, hash, 4 + api.Weak, slot})
		}
	}
}

func TestAllHeapsOfTwoSmallThings(t *testing.T) {
	var many int
	choices(1, func(x []int) {
		choices(2, func(y []int) {
			h := api.Heap{Words: joined([]int{0, 3}, x, y)}
			for _, roots := range [][]int{nil, {0, 5}, {4}, {12}, {4, 12}, {12, 4}, {12, 12, 4}, {0, 12}} {
				holdAgainstBare(t, h, roots)
				many++
			}
		})
	})
	if many != 36*36*8 {
		t.Error(many)
	}
}

// oddNumbers are edges of all that a word may be, and the ends of int.
func oddNumbers() []int {
	return []int{
		math.MinInt, math.MinInt + 1, math.MaxInt - 1, math.MaxInt, math.MinInt / 2, math.MaxInt / 2,
		-4, -1, 0, 1, 2, 3, 4, 5, 6, 8, 9, 10, 12, 16, 20, 255, 256, 3998, 4000, 10001, 10002,
		leastOdd - 2, leastOdd - 1, leastOdd, mostOdd, mostOdd + 1, mostOdd + 2,
	}
}

// holdFault asks of any words and roots that both calls end and answer the
// fault of Reach, and nothing else then; it tells whether there is none.
func holdFault(t *testing.T, h api.Heap, roots []int) bool {
	t.Helper()
	_, want := reach.Reach(h, roots)
	counts, f := Counts(h, roots)
	if f != want || f != fine && len(counts) != 0 {
		t.Fatal(h, roots, counts, f, want)
	}
	gone, f := Trial(h, roots)
	if f != want || f != fine && len(gone) != 0 {
		t.Fatal(h, roots, gone, f, want)
	}
	return want == fine
}

func TestAnyWordsAndRoots(t *testing.T) {
	d := dice(2)
	odd := oddNumbers()
	var faults int
	for range 20000 {
		h, roots := d.scattered(1 + d.below(5))
		roots = append(roots, 0)
		for range 1 + d.below(2) {
			if d.below(2) == 0 {
				h.Words[d.below(len(h.Words))] = odd[d.below(len(odd))]
			} else {
				roots[d.below(len(roots))] = odd[d.below(len(odd))]
			}
		}
		if holdFault(t, h, roots) {
			holdAgainstBare(t, h, roots)
		} else {
			faults++
		}
	}
	if faults < 3000 || faults > 17000 {
		t.Error("one-sided", faults)
	}
}

func TestWordsThatAreNoHeap(t *testing.T) {
	d := dice(4)
	odd := oddNumbers()
	for many := range 12 {
		for range 2000 {
			words := make([]int, many)
			for i := range words {
				words[i] = odd[d.below(len(odd))]
			}
			holdFault(t, api.Heap{Words: words}, words)
		}
	}
}
