package reach

import (
	"math"
	"slices"
	"testing"

	"gesso/api"
	"gesso/heap"
)

// The limits stand here as plain digits, so that a slip in how the program
// works them out is seen.
const (
	maxWords = 2000
	mostOdd  = 2147483647
	leastOdd = -2147483647
)

func heapOf(words ...int) api.Heap { return api.Heap{Words: words} }

func fault(code api.Errno, at int) api.Fault { return api.Fault{Code: code, At: at} }

var fine = api.Fault{}

// thing is one of a heap that is built by numbers of things, not by places.
// A class, and a slot of Plain or Weak: the number of a thing, or one of the
// others below; a slot of Bytes is its byte.
type thing struct {
	class, hash, form int
	slots             []int
}

// none is nil; small(n) the small reference of n.
const none = -1

func small(n int) int { return -1000 - n }

// build answers the heap of things, standing in that order (by numbers), and
// their references by their numbers.
func build(things []thing, order []int) (api.Heap, []int) {
	refs := make([]int, len(things))
	at, next := 2, 1
	for _, n := range order {
		refs[n] = 2 * at
		at += 3 + len(things[n].slots)
		next = max(next, things[n].hash+1)
	}
	words := []int{0, next}
	for _, n := range order {
		x := things[n]
		words = append(words, refOf(refs, x.class), x.hash, 4*len(x.slots)+x.form)
		for _, s := range x.slots {
			if x.form == api.Bytes {
				words = append(words, s)
			} else {
				words = append(words, refOf(refs, s))
			}
		}
	}
	return api.Heap{Words: words}, refs
}

func refOf(refs []int, n int) int {
	switch {
	case n >= 0:
		return refs[n]
	case n == none:
		return 0
	}
	return 2*(-n-1000) + 1
}

func inOrder(n int) []int {
	var out []int
	for i := range n {
		out = append(out, i)
	}
	return out
}

func refsOf(refs []int, numbers []int) []int {
	var out []int
	for _, n := range numbers {
		out = append(out, refOf(refs, n))
	}
	return out
}

// dice are numbers from a fixed rule.
type dice uint64

func (d *dice) below(n int) int {
	*d = *d*6364136223846793005 + 1442695040888963407
	return int(uint64(*d)>>33) % n
}

func (d *dice) shuffled(n int) []int {
	out := inOrder(n)
	for i := range out {
		j := i + d.below(n-i)
		out[i], out[j] = out[j], out[i]
	}
	return out
}

// anyone answers the number of one of n things, or none, or a small one.
func (d *dice) anyone(n int) int {
	switch d.below(5) {
	case 0:
		return none
	case 1:
		return small(d.below(3))
	}
	return d.below(n)
}

// scattered answers n things and some roots, by numbers.
func (d *dice) scattered(n int) ([]thing, []int) {
	things := make([]thing, n)
	hashes := d.shuffled(n)
	for i := range things {
		x := thing{class: none, hash: hashes[i] + 1, form: d.below(3)}
		if d.below(3) == 0 {
			x.class = d.below(n)
		}
		for range d.below(4) {
			if x.form == api.Bytes {
				x.slots = append(x.slots, d.below(64))
			} else {
				x.slots = append(x.slots, d.anyone(n))
			}
		}
		things[i] = x
	}
	var roots []int
	for range d.below(4) {
		roots = append(roots, d.anyone(n))
	}
	return things, roots
}

// wantReached is C2 said over again: all things are asked, over and over,
// until no more is reached.
func wantReached(things []thing, roots []int) []int {
	is := make([]bool, len(things))
	for _, n := range roots {
		if n >= 0 {
			is[n] = true
		}
	}
	for more := true; more; {
		more = false
		for i, x := range things {
			if !is[i] {
				continue
			}
			next := []int{x.class}
			if x.form == api.Plain {
				next = append(next, x.slots...)
			}
			for _, n := range next {
				if n >= 0 && !is[n] {
					is[n], more = true, true
				}
			}
		}
	}
	var out []int
	for i := range things {
		if is[i] {
			out = append(out, i)
		}
	}
	return out
}

// wantAlike is C3 said over again: each way to give things is tried.
func wantAlike(a []thing, roots []int, b []thing, others []int) bool {
	ra, rb := wantReached(a, roots), wantReached(b, others)
	if len(roots) != len(others) || len(ra) != len(rb) {
		return false
	}
	var try func(given map[int]int) bool
	try = func(given map[int]int) bool {
		if len(given) == len(ra) {
			return fits(a, roots, b, others, given)
		}
		x := ra[len(given)]
		for _, y := range rb {
			taken := false
			for _, z := range given {
				taken = taken || z == y
			}
			if taken {
				continue
			}
			given[x] = y
			if try(given) {
				return true
			}
			delete(given, x)
		}
		return false
	}
	return try(map[int]int{})
}

func fits(a []thing, roots []int, b []thing, others []int, given map[int]int) bool {
	to := func(n int) int {
		if n < 0 {
			return n
		}
		if y, ok := given[n]; ok {
			return y
		}
		return none
	}
	weak := func(n int) int {
		for _, y := range given {
			if y == n {
				return n
			}
		}
		return min(n, none)
	}
	for i, r := range roots {
		if to(r) != others[i] {
			return false
		}
	}
	for n, m := range given {
		x, y := a[n], b[m]
		if x.hash != y.hash || x.form != y.form || len(x.slots) != len(y.slots) || to(x.class) != y.class {
			return false
		}
		for i, s := range x.slots {
			switch {
			case x.form == api.Bytes && s != y.slots[i],
				x.form == api.Plain && to(s) != y.slots[i],
				x.form == api.Weak && to(s) != weak(y.slots[i]):
				return false
			}
		}
	}
	return true
}

// Three things: the first one's slot is the second, whose slot is the first;
// the third stands alone.
func circle() api.Heap { return heapOf(0, 4, 0, 1, 4, 12, 0, 2, 4, 4, 0, 3, 0) }

func TestReach(t *testing.T) {
	cases := []struct {
		name        string
		h           api.Heap
		roots, want []int
	}{
		{"no thing", heapOf(0, 1), nil, nil},
		{"no roots", circle(), nil, nil},
		{"no roots but empty", circle(), []int{}, nil},
		{"small and nil roots", circle(), []int{1, 0, mostOdd, leastOdd, 5}, nil},
		{"a circle", circle(), []int{4}, []int{4, 12}},
		{"a circle from its later one", circle(), []int{12}, []int{4, 12}},
		{"alone", circle(), []int{20}, []int{20}},
		{"roots that fall", circle(), []int{20, 12}, []int{4, 12, 20}},
		{"the same root twice", circle(), []int{20, 20, 1, 20}, []int{20}},
		{"in its own slot and its own class", heapOf(0, 2, 4, 1, 4, 4), []int{4}, []int{4}},
		{"a class ahead of it", heapOf(0, 3, 0, 1, 0, 4, 2, 0), []int{10}, []int{4, 10}},
		{"a class behind it", heapOf(0, 3, 10, 1, 0, 0, 2, 0), []int{4}, []int{4, 10}},
		{"classes in a circle", heapOf(0, 4, 10, 1, 0, 16, 2, 0, 4, 3, 0), []int{16}, []int{4, 10, 16}},
		{"the class of Bytes", heapOf(0, 3, 10, 1, 1, 0, 2, 0), []int{4}, []int{4, 10}},
		{"the class of Weak", heapOf(0, 3, 10, 1, 2, 0, 2, 0), []int{4}, []int{4, 10}},
		{"a byte names nobody", heapOf(0, 3, 0, 1, 5, 12, 0, 2, 0), []int{4}, []int{4}},
		{"a weak slot leads nowhere", heapOf(0, 3, 0, 1, 6, 12, 0, 2, 0), []int{4}, []int{4}},
		{"a weak slot of one that is a root", heapOf(0, 3, 0, 1, 6, 12, 0, 2, 0), []int{4, 12}, []int{4, 12}},
		{"small and nil slots", heapOf(0, 2, 0, 1, 12, 5, 0, -7), []int{4}, []int{4}},
		{"the last of its slots", heapOf(0, 3, 0, 1, 12, 5, 0, 16, 0, 2, 0), []int{4}, []int{4, 16}},
		{"who holds is not held", heapOf(0, 3, 0, 1, 4, 12, 0, 2, 0), []int{12}, []int{12}},
		{"through a class to its slot", heapOf(0, 4, 10, 1, 1, 0, 2, 4, 18, 0, 3, 0), []int{4}, []int{4, 10, 18}},
	}
	for _, c := range cases {
		got, f := Reach(c.h, c.roots)
		if f != fine || !slices.Equal(got, c.want) {
			t.Errorf("%s: %v %v, want %v", c.name, got, f, c.want)
		}
	}
}

func TestReachAgainstTheChapter(t *testing.T) {
	d := dice(1)
	for range 4000 {
		n := 1 + d.below(9)
		things, roots := d.scattered(n)
		h, refs := build(things, d.shuffled(n))
		if f := heap.Check(h); f != fine {
			t.Fatal(h, f)
		}
		want := refsOf(refs, wantReached(things, roots))
		slices.Sort(want)
		got, f := Reach(h, refsOf(refs, roots))
		if f != fine || !slices.Equal(got, want) {
			t.Fatal(h, roots, got, f, want)
		}
	}
}

// wrongHeaps are heaps that may not be, and their faults.
func wrongHeaps() map[*api.Heap]api.Fault {
	return map[*api.Heap]api.Fault{
		{Words: nil}:                          fault(api.ErrSize, 0),
		{Words: []int{0}}:                     fault(api.ErrSize, 0),
		{Words: make([]int, maxWords+1)}:      fault(api.ErrSize, 0),
		{Words: []int{1, 1}}:                  fault(api.ErrForm, 0),
		{Words: []int{0, 0}}:                  fault(api.ErrForm, 1),
		{Words: []int{0, 2, 0, 1, 3}}:         fault(api.ErrForm, 2),
		{Words: []int{0, 2, 6, 1, 0}}:         fault(api.ErrKind, 2),
		{Words: []int{0, 2, 0, 2, 0}}:         fault(api.ErrTwice, 2),
		{Words: []int{0, 2, 0, 1, 8, 0, 6}}:   fault(api.ErrKind, 6),
		{Words: []int{0, 2, 0, 1, 8, 0, 256}}: fault(api.ErrKind, 6),
	}
}

// wrongRoots are roots of circle(), and where the first stands that is none.
func wrongRoots() map[*[]int]int {
	return map[*[]int]int{
		{2}:                   0,
		{6}:                   0,
		{26}:                  0,
		{-4}:                  0,
		{3998}:                0,
		{4000}:                0,
		{mostOdd + 2}:         0,
		{leastOdd - 2}:        0,
		{math.MinInt}:         0,
		{math.MaxInt}:         0,
		{4, 12, 20, 10}:       3,
		{0, 1, 8, 2, 4}:       2,
		{4, 4, 4, 4, 4, 4, 2}: 6,
	}
}

func TestFaultsOfAHeapAndRoots(t *testing.T) {
	for h, want := range wrongHeaps() {
		for _, roots := range [][]int{nil, {4}, {2}, {1, 2}} {
			if got, f := Reach(*h, roots); f != want || len(got) != 0 {
				t.Error(h, roots, got, f, want)
			}
			// The other heap and the other roots are wrong, too.
			if is, f := Alike(*h, roots, heapOf(7), []int{2}); f != want || is {
				t.Error(h, roots, is, f, want)
			}
			if is, f := Alike(circle(), []int{4}, *h, roots); f != want || is {
				t.Error(h, roots, is, f, want)
			}
		}
	}
	for roots, at := range wrongRoots() {
		want := fault(api.ErrKind, at)
		if got, f := Reach(circle(), *roots); f != want || len(got) != 0 {
			t.Error(roots, got, f, want)
		}
		for h := range wrongHeaps() {
			if is, f := Alike(circle(), *roots, *h, []int{2}); f != want || is {
				t.Error(roots, is, f, want)
			}
		}
		// Lists of unlike lengths are no reason to leave the others unasked.
		for _, ahead := range [][]int{nil, {1}, {4, 12}} {
			if is, f := Alike(circle(), ahead, circle(), *roots); f != want || is {
				t.Error(roots, is, f, want)
			}
		}
	}
	// A root may be of a thing of the other heap alone.
	if is, f := Alike(circle(), []int{20}, heapOf(0, 1), []int{20}); is || f != fault(api.ErrKind, 0) {
		t.Error(is, f)
	}
	if is, f := Alike(heapOf(0, 1), []int{20}, circle(), []int{20}); is || f != fault(api.ErrKind, 0) {
		t.Error(is, f)
	}
}

func TestAlikeOfRoots(t *testing.T) {
	cases := []struct {
		roots, others []int
		want          bool
	}{
		{nil, nil, true},
		{nil, []int{}, true},
		{nil, []int{0}, false},
		{[]int{0}, nil, false},
		{[]int{0}, []int{0}, true},
		{[]int{0}, []int{0, 0}, false},
		{[]int{1}, []int{1}, true},
		{[]int{1}, []int{3}, false},
		{[]int{1}, []int{0}, false},
		{[]int{0}, []int{1}, false},
		{[]int{0}, []int{20}, false},
		{[]int{20}, []int{0}, false},
		{[]int{20}, []int{21}, false},
		{[]int{leastOdd, mostOdd}, []int{leastOdd, mostOdd}, true},
		{[]int{leastOdd, mostOdd}, []int{mostOdd, leastOdd}, false},
		{[]int{4}, []int{4}, true},
		{[]int{4}, []int{12}, false},
		{[]int{4, 12}, []int{4, 12}, true},
		{[]int{4, 12}, []int{12, 4}, false},
		{[]int{4, 4}, []int{4, 4}, true},
		{[]int{4, 4}, []int{4, 12}, false},
		{[]int{4, 12}, []int{4, 4}, false},
		{[]int{4, 20}, []int{4}, false},
		{[]int{4}, []int{4, 20}, false},
		{[]int{4}, []int{4, 4}, false},
		{[]int{20}, []int{4}, false},
	}
	for _, c := range cases {
		if is, f := Alike(circle(), c.roots, circle(), c.others); is != c.want || f != fine {
			t.Error(c.roots, c.others, is, f)
		}
	}
}

// family is a heap that has all of what C3 asks: a Plain one (0) of class 4,
// a Bytes one (1), a Weak one (2) of which one slot is of a reached one and
// one is not, a lonely one (3), and a class of its own class (4).
func family() []thing {
	return []thing{
		{4, 1, api.Plain, []int{1, small(5), 2, none}},
		{4, 2, api.Bytes, []int{4, 12}},
		{none, 3, api.Weak, []int{0, 3, small(1), none}},
		{none, 4, api.Plain, []int{0}},
		{4, 5, api.Plain, nil},
	}
}

func alikeToFamily(t *testing.T, b []thing, others []int) bool {
	t.Helper()
	h, refs := build(family(), inOrder(5))
	k, kRefs := build(b, inOrder(len(b)))
	is, f := Alike(h, refsOf(refs, []int{0}), k, refsOf(kRefs, others))
	back, g := Alike(k, refsOf(kRefs, others), h, refsOf(refs, []int{0}))
	if f != fine || g != fine || is != back {
		t.Error(b, others, is, f, back, g)
	}
	return is
}

func TestAlikeIsBlindToPlaces(t *testing.T) {
	h, refs := build(family(), inOrder(5))
	for _, order := range [][]int{{0, 1, 2, 3, 4}, {4, 3, 2, 1, 0}, {1, 3, 0, 4, 2}} {
		k, kRefs := build(family(), order)
		if is, f := Alike(h, refsOf(refs, []int{0, 2}), k, refsOf(kRefs, []int{0, 2})); !is || f != fine {
			t.Error(order, is, f)
		}
	}
	// The next hash is of no thing that is reached.
	k := api.Heap{Words: slices.Clone(h.Words)}
	k.Words[1] = 9000
	if is, f := Alike(h, refs[:1], k, refs[:1]); !is || f != fine {
		t.Error(is, f)
	}
}

func TestAlikeOfOneChange(t *testing.T) {
	cases := []struct {
		name   string
		change func(b []thing)
		want   bool
	}{
		{"nothing", func(b []thing) {}, true},
		{"hash of the root", func(b []thing) { b[0].hash = 9 }, false},
		{"hash of Bytes", func(b []thing) { b[1].hash = 9 }, false},
		{"hash of the class", func(b []thing) { b[4].hash = 9 }, false},
		{"hash of the lonely one", func(b []thing) { b[3].hash = 9 }, true},
		{"hashes in turn", func(b []thing) { b[0].hash, b[1].hash = 2, 1 }, false},
		{"no class", func(b []thing) { b[1].class = none }, false},
		{"another class", func(b []thing) { b[1].class = 0 }, false},
		{"a class more", func(b []thing) { b[2].class = 4 }, false},
		{"class of the lonely one", func(b []thing) { b[3].class = 0 }, true},
		{"class of the class", func(b []thing) { b[4].class = none }, false},
		{"form of the class", func(b []thing) { b[4].form = api.Weak }, false},
		{"form of the class, Bytes", func(b []thing) { b[4].form = api.Bytes }, false},
		{"Weak that was Plain", func(b []thing) { b[0].form = api.Weak }, false},
		{"Plain that was Weak", func(b []thing) { b[2].form = api.Plain }, false},
		{"a slot more of Plain", func(b []thing) { b[0].slots = append(b[0].slots, none) }, false},
		{"a slot less of Plain", func(b []thing) { b[0].slots = b[0].slots[:3] }, false},
		{"a slot more of Bytes", func(b []thing) { b[1].slots = append(b[1].slots, 0) }, false},
		{"a slot less of Bytes", func(b []thing) { b[1].slots = b[1].slots[:1] }, false},
		{"a slot more of Weak", func(b []thing) { b[2].slots = append(b[2].slots, none) }, false},
		{"a slot less of Weak", func(b []thing) { b[2].slots = b[2].slots[:3] }, false},
		{"another small one", func(b []thing) { b[0].slots[1] = small(6) }, false},
		{"a small one that was nil", func(b []thing) { b[0].slots[3] = small(0) }, false},
		{"nil that was small", func(b []thing) { b[0].slots[1] = none }, false},
		{"a thing that was nil", func(b []thing) { b[0].slots[3] = 0 }, false},
		{"nil that was a thing", func(b []thing) { b[0].slots[0] = none }, false},
		{"things in turn", func(b []thing) { b[0].slots[0], b[0].slots[2] = 2, 1 }, false},
		{"another byte", func(b []thing) { b[1].slots[0] = 5 }, false},
		{"another last byte", func(b []thing) { b[1].slots[1] = 0 }, false},
		{"bytes in turn", func(b []thing) { b[1].slots[0], b[1].slots[1] = 12, 4 }, false},
		{"weak: nil for one that is not reached", func(b []thing) { b[2].slots[1] = none }, true},
		{"weak: one not reached for nil", func(b []thing) { b[2].slots[3] = 3 }, true},
		{"weak: small for one not reached", func(b []thing) { b[2].slots[1] = small(0) }, false},
		{"weak: one reached for one not", func(b []thing) { b[2].slots[1] = 4 }, false},
		{"weak: one reached for nil", func(b []thing) { b[2].slots[3] = 0 }, false},
		{"weak: itself for nil", func(b []thing) { b[2].slots[3] = 2 }, false},
		{"weak: one not reached for one that is", func(b []thing) { b[2].slots[0] = 3 }, false},
		{"weak: nil for one that is reached", func(b []thing) { b[2].slots[0] = none }, false},
		{"weak: another reached one", func(b []thing) { b[2].slots[0] = 1 }, false},
		{"weak: another small one", func(b []thing) { b[2].slots[2] = small(2) }, false},
		{"weak: nil for small", func(b []thing) { b[2].slots[2] = none }, false},
		{"weak: one not reached for small", func(b []thing) { b[2].slots[2] = 3 }, false},
		{"slot of the lonely one", func(b []thing) { b[3].slots[0] = small(77) }, true},
		{"slots of the lonely one", func(b []thing) { b[3].slots = []int{3, 3, 3} }, true},
	}
	for _, c := range cases {
		b := family()
		c.change(b)
		if got := alikeToFamily(t, b, []int{0}); got != c.want {
			t.Errorf("%s: %v", c.name, got)
		}
	}
}

// What a slot of Weak is held against hangs on what is reached by later
// roots, too.
func TestWeakIsHeldLast(t *testing.T) {
	a := []thing{{none, 1, api.Weak, []int{1, 1}}, {none, 2, api.Plain, nil}}
	b := []thing{{none, 1, api.Weak, []int{1, none}}, {none, 2, api.Plain, nil}}
	h, refs := build(a, inOrder(2))
	k, kRefs := build(b, []int{1, 0})
	if is, f := Alike(h, refs[:1], k, kRefs[:1]); !is || f != fine {
		t.Error("none is reached", is, f)
	}
	if is, f := Alike(h, refs, k, kRefs); is || f != fine {
		t.Error("one is reached", is, f)
	}
	if is, f := Alike(h, refs, h, refs); !is || f != fine {
		t.Error("the same", is, f)
	}
}

// Bytes are numbers, also where a thing stands at such a place.
func TestBytesNameNobody(t *testing.T) {
	a := []thing{{none, 1, api.Bytes, []int{12}}, {none, 2, api.Plain, nil}}
	b := []thing{{none, 1, api.Bytes, []int{4}}, {none, 2, api.Plain, nil}}
	h, refs := build(a, []int{0, 1})
	k, kRefs := build(b, []int{1, 0})
	if is, f := Alike(h, refs, k, kRefs); is || f != fine || refs[1] != 12 || kRefs[1] != 4 {
		t.Error(is, f, refs, kRefs)
	}
	same, sameRefs := build(a, []int{1, 0})
	if is, f := Alike(h, refs, same, sameRefs); !is || f != fine {
		t.Error(is, f)
	}
}

// changed answers things with one field of one thing, or one root, anew.
func (d *dice) changed(things []thing, roots []int) ([]thing, []int) {
	out := slices.Clone(things)
	for i := range out {
		out[i].slots = slices.Clone(out[i].slots)
	}
	n := len(out)
	x := &out[d.below(n)]
	switch which := d.below(7); {
	case which == 0:
		x.class = d.below(n)
	case which == 1:
		x.hash = n + 1
		for _, y := range things {
			x.hash = max(x.hash, y.hash+1)
		}
	case which == 2 && x.form != api.Bytes:
		x.form = api.Weak - x.form
	case which == 3 && len(roots) > 0:
		roots = slices.Clone(roots)
		roots[d.below(len(roots))] = d.anyone(n)
	case len(x.slots) > 0 && x.form == api.Bytes:
		x.slots[d.below(len(x.slots))] = d.below(64)
	case len(x.slots) > 0:
		x.slots[d.below(len(x.slots))] = d.anyone(n)
	}
	return out, roots
}

func TestAlikeAgainstTheChapter(t *testing.T) {
	d := dice(2)
	var told [2]int
	for range 6000 {
		n := 1 + d.below(5)
		a, roots := d.scattered(n)
		b, others := a, roots
		for range d.below(3) {
			b, others = d.changed(b, others)
		}
		h, refs := build(a, d.shuffled(n))
		k, kRefs := build(b, d.shuffled(n))
		want := wantAlike(a, roots, b, others)
		got, f := Alike(h, refsOf(refs, roots), k, refsOf(kRefs, others))
		if f != fine || got != want {
			t.Fatal(h, refsOf(refs, roots), k, refsOf(kRefs, others), got, f, want)
		}
		if want {
			told[1]++
		} else {
			told[0]++
		}
	}
	if told[0] < 500 || told[1] < 500 {
		t.Error("one-sided", told)
	}
}

// chain answers a heap of most words, in which each thing has the next one as
// its class (or, if forward is false, the one ahead), and its references.
func chain(forward bool) (api.Heap, []int) {
	things := make([]thing, (maxWords-2)/3)
	for i := range things {
		things[i] = thing{class: i - 1, hash: i + 1}
		if forward {
			things[i].class = (i + 1) % len(things)
		}
	}
	return build(things, inOrder(len(things)))
}

func TestLongRows(t *testing.T) {
	for _, forward := range []bool{false, true} {
		h, refs := chain(forward)
		from := []int{refs[0]}
		if !forward {
			from[0] = refs[len(refs)-1]
		}
		if len(h.Words) != maxWords || heap.Check(h) != fine {
			t.Fatal(len(h.Words))
		}
		if got, f := Reach(h, from); f != fine || !slices.Equal(got, refs) {
			t.Error(forward, len(got), f)
		}
		if is, f := Alike(h, from, h, from); !is || f != fine {
			t.Error(forward, is, f)
		}
		k := api.Heap{Words: slices.Clone(h.Words)}
		k.Words[1] = 9001
		k.Words[2+3*300+1] = 9000
		if is, f := Alike(h, from, k, from); is || f != fine {
			t.Error(forward, is, f)
		}
	}
}

func TestManyRoots(t *testing.T) {
	roots := make([]int, 200000)
	for i := range roots {
		roots[i] = []int{4, 12, 0, 7}[i%4]
	}
	if got, f := Reach(circle(), roots); f != fine || !slices.Equal(got, []int{4, 12}) {
		t.Error(got, f)
	}
	if is, f := Alike(circle(), roots, circle(), roots); !is || f != fine {
		t.Error(is, f)
	}
	others := slices.Clone(roots)
	others[199997] = 20
	if is, f := Alike(circle(), roots, circle(), others); is || f != fine {
		t.Error(is, f)
	}
	others[199997] = 2
	if _, f := Reach(circle(), others); f != fault(api.ErrKind, 199997) {
		t.Error(f)
	}
}

// Whatever the words and the roots are, each call ends, and where there is a
// fault all else is zero.
func TestAnyWordsAndRoots(t *testing.T) {
	d := dice(3)
	odd := []int{
		math.MinInt, math.MaxInt, -1, 0, 1, 2, 3, 4, 6, 8, 12, 14, 20, 255, 256, 3998, 4000,
		leastOdd - 2, leastOdd, mostOdd, mostOdd + 2,
	}
	for range 20000 {
		things, roots := d.scattered(1 + d.below(5))
		h, refs := build(things, inOrder(len(things)))
		rooted := append(refsOf(refs, roots), 0)
		if d.below(2) == 0 {
			h.Words[d.below(len(h.Words))] = odd[d.below(len(odd))]
		} else {
			rooted[d.below(len(rooted))] = odd[d.below(len(odd))]
		}
		want := heap.Check(h)
		if at := slices.IndexFunc(rooted, func(o int) bool {
			_, e := heap.Look(h, o)
			return o != 0 && e != api.OK && (o%2 == 0 || o < leastOdd || o > mostOdd)
		}); want == fine && at >= 0 {
			want = fault(api.ErrKind, at)
		}
		got, f := Reach(h, rooted)
		if f != want || f != fine && len(got) != 0 {
			t.Fatal(h, rooted, got, f, want)
		}
		is, f := Alike(h, rooted, h, rooted)
		if f != want || is != (f == fine) {
			t.Fatal(h, rooted, is, f, want)
		}
	}
}

// guarded answers a list with room behind its length, and a look at whether
// anything there or in the list has been changed.
func guarded(list []int) ([]int, func() bool) {
	whole := append(slices.Clone(list), 78, 78, 78, 78, 78, 78, 78, 78)
	before := slices.Clone(whole)
	return whole[:len(list)], func() bool { return slices.Equal(whole, before) }
}

func TestNothingIsChangedKeptOrShared(t *testing.T) {
	words, sameWords := guarded(circle().Words)
	roots, sameRoots := guarded([]int{20, 12, 1, 0, 4})
	others, sameOthers := guarded([]int{20, 12, 1, 0, 4})
	h := api.Heap{Words: words}
	got, _ := Reach(h, roots)
	again, _ := Reach(h, roots)
	if is, f := Alike(h, roots, h, others); !is || f != fine {
		t.Error(is, f)
	}
	same := func() bool { return sameWords() && sameRoots() && sameOthers() }
	if !same() {
		t.Fatal("changed", words, roots, others)
	}
	for i := range got[:cap(got)] {
		got[:cap(got)][i] = -99
	}
	if !same() || !slices.Equal(again, []int{4, 12, 20}) {
		t.Error("shared", words, roots, again)
	}
}

func TestSeeAndFrom(t *testing.T) {
	v, f := See(circle(), []int{2})
	if f != fault(api.ErrKind, 0) || v.Has(4) {
		t.Error("a view where there is a fault", f)
	}
	v, f = See(circle(), []int{4})
	if f != fine || !slices.Equal(From(v, []int{12}), []int{4, 12}) {
		t.Error(f)
	}
	x := api.Thing{Class: 4, Slots: []int{6, 1}}
	if got := Leads(x); !slices.Equal(got, []int{4, 6, 1}) {
		t.Error(got)
	}
	for _, form := range []int{api.Bytes, api.Weak} {
		x.Form = form
		if got := Leads(x); !slices.Equal(got, []int{4}) {
			t.Error(form, got)
		}
	}
}
