package tri

import (
	"math"
	"slices"
	"testing"

	"gesso/api"
	"gesso/reach"
)

// dice are numbers from a fixed rule.
type dice uint64

func (d *dice) below(n int) int {
	*d = *d*6364136223846793005 + 1442695040888963407
	return int(uint64(*d)>>33) % n
}

// anyOf answers one of refs, nil, or a number.
func (d *dice) anyOf(refs []int) int {
	switch d.below(6) {
	case 0:
		return 0
	case 1:
		return 2*d.below(20) + 1
	}
	return refs[d.below(len(refs))]
}

// scattered answers the words of n things, their references, and some roots.
func (d *dice) scattered(n int) (words, refs, roots []int) {
	sizes := make([]int, n)
	at := 2
	for i := range n {
		sizes[i] = d.below(4)
		refs = append(refs, 2*at)
		at += 3 + sizes[i]
	}
	words = []int{0, n + 1 + d.below(3)}
	for i := range n {
		form, class := max(0, d.below(6)-3), 0
		if d.below(3) == 0 {
			class = refs[d.below(n)]
		}
		words = append(words, class, n-i, 4*sizes[i]+form)
		for range sizes[i] {
			if form == 1 {
				words = append(words, d.below(128))
			} else {
				words = append(words, d.anyOf(refs))
			}
		}
	}
	for range d.below(5) {
		roots = append(roots, d.anyOf(refs))
	}
	return words, refs, roots
}

// op answers an op of any kind, with all fields filled: often one that may be,
// if refs has the references that there are or will be.
func (d *dice) op(refs []int) api.Op {
	return api.Op{
		Kind: []int{1, 1, 1, 2, 2, 2, 2, 3, 4, 5}[d.below(10)],
		O:    refs[d.below(len(refs))], At: []int{0, 0, 0, 1, 1, 2, 3, -1}[d.below(8)], What: d.anyOf(refs),
		Form: max(0, d.below(6)-2), Size: d.below(5) - 1,
	}
}

// holdAll holds what comes of all against S1 and S2 said over again, and S3.
func holdAll(t *testing.T, words, roots []int, all []api.Op) api.Play {
	t.Helper()
	p, f := Play(api.Heap{Words: words}, roots, all)
	if want := played(words, roots, all); f != fine || !same(p, want) {
		t.Fatalf("%v %v %v: %v %v, want %v", words, roots, all, p, f, want)
	}
	holdS3(t, "scattered", api.Heap{Words: words}, roots, all)
	return p
}

func TestAgainstTheChapter(t *testing.T) {
	d := dice(1)
	var done, let, put, grown, turned, early int
	count := func(is bool, many *int) {
		if is {
			*many++
		}
	}
	for range 12000 {
		words, refs, roots := d.scattered(1 + d.below(7))
		// Those behind the last one are of things that OpNew may lay.
		refs = append(refs, 2*len(words), 2*len(words)+6, 2*len(words)+8)
		var all []api.Op
		for range d.below(16) {
			all = append(all, d.op(refs))
		}
		p := holdAll(t, words, roots, all)
		count(p.Done, &done)
		count(p.Done && len(p.Freed) > 0, &let)
		count(!slices.Equal(p.H.Words[2:len(words)], words[2:]), &put)
		count(len(p.H.Words) > len(words), &grown)
		count(!slices.Equal(p.Roots[:len(roots)], roots), &turned)
		reached, _ := reach.Reach(p.H, p.Roots)
		count(p.Done && len(reached)+len(p.Freed) < len(p.Colours), &early)
	}
	if done < 2500 || done > 9000 || let < 1500 || put < 1500 || grown < 2500 || turned < 1500 || early < 500 {
		t.Error("one-sided", done, let, put, grown, turned, early)
	}
}

// Much is done on great heaps, until they are full, too.
func TestGreatHeapsAgainstTheChapter(t *testing.T) {
	d := dice(3)
	for range 6 {
		words, refs, roots := d.scattered(60 + d.below(60))
		roots = append(roots, refs[0], refs[1], refs[2], 7, 0)
		var all []api.Op
		for range 200 {
			op := d.op(refs)
			op.Size *= 12
			all = append(all, op)
		}
		p := holdAll(t, words, roots, all)
		if len(p.H.Words) <= len(words) {
			t.Error("nothing is new")
		}
	}
}

// visitOps calls visit with each row of so many ops, each one of those.
func visitOps(many int, choice []api.Op, visit func(all []api.Op)) {
	row := make([]api.Op, many)
	var from func(at int)
	from = func(at int) {
		if at == many {
			visit(row)
			return
		}
		for _, op := range choice {
			row[at] = op
			from(at + 1)
		}
	}
	from(0)
}

// All rows of four ops on small heaps: a holder of each form, which is the
// root, a thing that it holds, and one that it does not.
func TestAllShortRowsOfOps(t *testing.T) {
	choice := ops(scan(), put(4, 0, 0), put(4, 0, 12), put(12, 0, 20), put(12, 0, 4), anew(0, 1), put(26, 0, 12), root(0, 12), root(0, 0), root(1, 4))
	var many int
	for form := range 3 {
		words := []int{0, 4, 0, 1, 4 + form, 12, 0, 2, 4, 20, 0, 3, 0}
		for _, roots := range [][]int{{4}, {4, 12}} {
			visitOps(4, choice, func(all []api.Op) {
				holdAll(t, words, roots, all)
				many++
			})
		}
	}
	if many != 6*10000 {
		t.Error(many)
	}
}

// oddNumbers are edges of all that a word may be, and the ends of int.
func oddNumbers() []int {
	return []int{
		math.MinInt, math.MinInt + 1, math.MaxInt - 1, math.MaxInt, math.MinInt / 2, math.MaxInt / 2,
		-4, -1, 0, 1, 2, 3, 4, 5, 6, 8, 9, 10, 12, 16, 20, 255, 256, 3998, 4000, 10001, 10002,
		leastOdd - 2, leastOdd - 1, leastOdd, mostOdd, mostOdd + 1, mostOdd + 2,
	}
}

// anyOp answers an op in which one field is any number.
func (d *dice) anyOp(refs, odd []int) api.Op {
	op := d.op(refs)
	fields := []*int{&op.Kind, &op.O, &op.At, &op.What, &op.Form, &op.Size}
	*fields[d.below(len(fields))] = odd[d.below(len(odd))]
	return op
}

// Whatever the words, the roots and the ops are, each call ends, and where
// there is a fault (that of Reach) all else is zero.
func TestAnyWordsRootsAndOps(t *testing.T) {
	d := dice(2)
	odd := oddNumbers()
	var faults int
	for range 20000 {
		words, refs, roots := d.scattered(1 + d.below(5))
		roots = append(roots, 0)
		switch d.below(3) {
		case 0:
			words[d.below(len(words))] = odd[d.below(len(odd))]
		case 1:
			roots[d.below(len(roots))] = odd[d.below(len(odd))]
		}
		var all []api.Op
		for range d.below(8) {
			all = append(all, d.anyOp(refs, odd))
		}
		_, want := reach.Reach(api.Heap{Words: words}, roots)
		p, f := Play(api.Heap{Words: words}, roots, all)
		if f != want || f != fine && !isZero(p) {
			t.Fatal(words, roots, all, p, f, want)
		}
		if f == fine {
			holdAll(t, words, roots, all)
		} else {
			faults++
		}
	}
	if faults < 3000 || faults > 17000 {
		t.Error("one-sided", faults)
	}
}

func TestWordsThatAreNoHeap(t *testing.T) {
	d := dice(4)
	odd := oddNumbers()
	for many := range 12 {
		for range 1000 {
			h := api.Heap{Words: make([]int, many)}
			for i := range h.Words {
				h.Words[i] = odd[d.below(len(odd))]
			}
			all := ops(d.anyOp(odd, odd), d.anyOp(odd, odd))
			_, want := reach.Reach(h, h.Words)
			p, f := Play(h, h.Words, all)
			if f != want || f != fine && !isZero(p) {
				t.Fatal(h, all, p, f, want)
			}
		}
	}
}
