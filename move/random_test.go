package move

import (
	"math"
	"slices"
	"testing"

	"gesso/api"
	"gesso/reach"
)

// dice are numbers from a fixed rule.
type dice uint64

func (d *dice) below(n int) int {
	*d = *d*6364136223846793005 + 1442695040888963407
	return int(uint64(*d)>>33) % n
}

func (d *dice) shuffled(n int) []int {
	out := inOrder(n)
	for i := range out {
		j := i + d.below(n-i)
		out[i], out[j] = out[j], out[i]
	}
	return out
}

// anyone answers the number of one of n things, or none, or a small one.
func (d *dice) anyone(n int) int {
	switch d.below(4) {
	case 0:
		return none
	case 1:
		return small(d.below(3))
	}
	return d.below(n)
}

// scattered answers n things and some roots, by numbers.
func (d *dice) scattered(n int) ([]thing, []int) {
	things := make([]thing, n)
	hashes := d.shuffled(n)
	for i := range things {
		x := thing{class: none, hash: hashes[i] + 1, form: d.below(4) % 3}
		if d.below(4) == 0 {
			x.class = d.below(n)
		}
		for range d.below(4) {
			if x.form == api.Bytes {
				x.slots = append(x.slots, d.below(128))
			} else {
				x.slots = append(x.slots, d.anyone(n))
			}
		}
		things[i] = x
	}
	var roots []int
	for range d.below(6) {
		roots = append(roots, d.anyone(n))
	}
	return things, roots
}

func TestAgainstTheChapter(t *testing.T) {
	d := dice(1)
	var some, all, no, turned int
	for range 6000 {
		n := 1 + d.below(10)
		things, roots := d.scattered(n)
		laid := d.shuffled(n)
		holdR1(t, things, n+1+d.below(3), laid, roots)
		order := wantOrder(things, roots)
		switch len(order) {
		case 0:
			no++
		case n:
			all++
		default:
			some++
		}
		stood := slices.DeleteFunc(laid, func(n int) bool { return !slices.Contains(order, n) })
		if !slices.Equal(stood, order) {
			turned++
		}
	}
	if no < 300 || all < 300 || some < 300 || turned < 1500 {
		t.Error("one-sided", no, some, all, turned)
	}
}

// Great heaps, in which much is named more than once, and named first at all
// distances from where it stood.
func TestGreatHeapsAgainstTheChapter(t *testing.T) {
	d := dice(3)
	for range 60 {
		n := 100 + d.below(200)
		things, roots := d.scattered(n)
		roots = append(roots, d.below(n), small(7), d.below(n), d.below(n))
		holdR1(t, things, n+1, d.shuffled(n), roots)
	}
}

// choices calls visit with each thing of that hash that is of one of the forms
// and has at most one slot, where two things are numbered 0 and 1.
func choices(hash int, visit func(x thing)) {
	for form := range 3 {
		for _, class := range []int{none, 0, 1} {
			visit(thing{class, hash, form, nil})
			for _, slot := range []int{none, small(2), 0, 1} {
				if form == api.Bytes {
					slot = 4 + slot&1
				}
				visit(thing{class, hash, form, []int{slot}})
			}
		}
	}
}

func TestAllHeapsOfTwoSmallThings(t *testing.T) {
	var many int
	choices(1, func(x thing) {
		choices(2, func(y thing) {
			for _, roots := range [][]int{nil, {none, small(2)}, {0}, {1}, {0, 1}, {1, 0}, {1, 1, 0}, {none, 1}} {
				holdR1(t, []thing{x, y}, 3, []int{0, 1}, roots)
				many++
			}
		})
	})
	if many != 45*45*8 {
		t.Error(many)
	}
}

// oddNumbers are edges of all that a word may be, and the ends of int.
func oddNumbers() []int {
	return []int{
		math.MinInt, math.MinInt + 1, math.MaxInt - 1, math.MaxInt, math.MinInt / 2, math.MaxInt / 2,
		-4, -1, 0, 1, 2, 3, 4, 5, 6, 8, 9, 10, 12, 16, 20, 255, 256, 3998, 4000, 10001, 10002,
		leastOdd - 2, leastOdd - 1, leastOdd, mostOdd, mostOdd + 1, mostOdd + 2,
	}
}

// Whatever the words and the roots are, each call ends, and where there is a
// fault (that of Reach) all else is zero.
func TestAnyWordsAndRoots(t *testing.T) {
	d := dice(2)
	odd := oddNumbers()
	var faults int
	for range 20000 {
		n := 1 + d.below(5)
		things, numbers := d.scattered(n)
		h, refs := build(things, n+1, d.shuffled(n))
		roots := append(refsOf(refs, numbers), 0)
		for range 1 + d.below(2) {
			if d.below(2) == 0 {
				h.Words[d.below(len(h.Words))] = odd[d.below(len(odd))]
			} else {
				roots[d.below(len(roots))] = odd[d.below(len(odd))]
			}
		}
		_, want := reach.Reach(h, roots)
		k, others, f := Collect(h, roots)
		if f != want || f != fine && (len(k.Words) != 0 || len(others) != 0) {
			t.Fatal(h, roots, k, others, f, want)
		}
		if f == fine {
			holdFirstNamed(t, k, others)
			holdR2(t, "any", h, roots)
		} else {
			faults++
		}
	}
	if faults < 3000 || faults > 17000 {
		t.Error("one-sided", faults)
	}
}

func TestWordsThatAreNoHeap(t *testing.T) {
	d := dice(4)
	odd := oddNumbers()
	for many := range 12 {
		for range 2000 {
			h := api.Heap{Words: make([]int, many)}
			for i := range h.Words {
				h.Words[i] = odd[d.below(len(odd))]
			}
			_, want := reach.Reach(h, h.Words)
			k, others, f := Collect(h, h.Words)
			if f != want || f != fine && (len(k.Words) != 0 || len(others) != 0) {
				t.Fatal(h, k, others, f, want)
			}
		}
	}
}
