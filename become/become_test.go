package become

import (
	"math"
	"slices"
	"testing"

	"gesso/api"
	"gesso/heap"
	"gesso/reach"
)

// The limits stand here as plain digits, so that a slip in how the program
// works them out is seen.
const (
	maxWords = 2000
	maxSize  = 60
	maxHash  = 10000
	mostOdd  = 2147483647
	leastOdd = -2147483647
)

func fault(code api.Errno, at int) api.Fault { return api.Fault{Code: code, At: at} }

var fine = api.Fault{}

// asked is what One and Two are handed.
type asked struct{ words, from, to, roots []int }

func (a asked) one() (api.Heap, []int, api.Fault) {
	return One(api.Heap{Words: a.words}, a.from, a.to, a.roots)
}

func (a asked) two() (api.Heap, []int, api.Fault) {
	return Two(api.Heap{Words: a.words}, a.from, a.to, a.roots)
}

// answered is the words and the roots that are to come.
type answered struct{ words, roots []int }

func (w answered) hold(t *testing.T, name string, h api.Heap, roots []int, f api.Fault) {
	t.Helper()
	if f != fine || !slices.Equal(h.Words, w.words) || !slices.Equal(roots, w.roots) {
		t.Errorf("%s: %v %v %v, want %v %v", name, h.Words, roots, f, w.words, w.roots)
	}
}

// refused asks that a fault came, and that all else is zero.
func refused(t *testing.T, name string, want api.Fault) func(h api.Heap, roots []int, f api.Fault) {
	return func(h api.Heap, roots []int, f api.Fault) {
		t.Helper()
		if f != want || len(h.Words) != 0 || len(roots) != 0 {
			t.Errorf("%s: %v %v %v, want %v", name, h.Words, roots, f, want)
		}
	}
}

// joined is a heap's words: the first two, then those of each thing.
func joined(parts ...[]int) []int { return slices.Concat(parts...) }

// row is a heap of five things of no slots, and of one that has what is handed
// in as its slots, of that form: the references 4, 10, 16, 22, 28 and 34.
func row(form int, slots ...int) []int {
	words := []int{0, 9}
	for i := range 5 {
		words = append(words, 0, i+1, 0)
	}
	return append(append(words, 0, 6, 4*len(slots)+form), slots...)
}

// all are the references of a row, and others beside.
func all() []int { return []int{4, 10, 16, 22, 28, 34, 0, 1, mostOdd, leastOdd} }

// becomes is what all of a row, as slots and as roots, are to be.
type becomes struct {
	name         string
	from, to     []int
	ones, twos   []int
	noOne, noTwo bool // there is a fault: see the tests of faults
}

func pairsAndWhatComes() []becomes {
	return []becomes{
		{name: "nobody", ones: all(), twos: all()},
		{name: "nobody, of empty lists", from: []int{}, to: []int{}, ones: all(), twos: all()},
		{
			name: "one", from: []int{4}, to: []int{10},
			ones: []int{10, 10, 16, 22, 28, 34, 0, 1, mostOdd, leastOdd},
			twos: []int{10, 4, 16, 22, 28, 34, 0, 1, mostOdd, leastOdd},
		},
		{
			name: "one, back", from: []int{10}, to: []int{4},
			ones: []int{4, 4, 16, 22, 28, 34, 0, 1, mostOdd, leastOdd},
			twos: []int{10, 4, 16, 22, 28, 34, 0, 1, mostOdd, leastOdd},
		},
		{
			name: "the one who has them", from: []int{34}, to: []int{4},
			ones: []int{4, 10, 16, 22, 28, 4, 0, 1, mostOdd, leastOdd},
			twos: []int{34, 10, 16, 22, 28, 4, 0, 1, mostOdd, leastOdd},
		},
		{
			name: "itself", from: []int{16}, to: []int{16},
			ones: all(), noTwo: true,
		},
		{
			name: "two pairs", from: []int{4, 16}, to: []int{10, 22},
			ones: []int{10, 10, 22, 22, 28, 34, 0, 1, mostOdd, leastOdd},
			twos: []int{10, 4, 22, 16, 28, 34, 0, 1, mostOdd, leastOdd},
		},
		{
			name: "two pairs that cross", from: []int{22, 4}, to: []int{10, 28},
			ones: []int{28, 10, 16, 10, 28, 34, 0, 1, mostOdd, leastOdd},
			twos: []int{28, 22, 16, 10, 4, 34, 0, 1, mostOdd, leastOdd},
		},
		{
			name: "all become one", from: []int{4, 10, 16, 22, 28}, to: []int{34, 34, 34, 34, 34},
			ones: []int{34, 34, 34, 34, 34, 34, 0, 1, mostOdd, leastOdd}, noTwo: true,
		},
		{
			name: "all become one of them", from: []int{4, 10, 16, 22, 28, 34}, to: []int{16, 16, 16, 16, 16, 16},
			ones: []int{16, 16, 16, 16, 16, 16, 0, 1, mostOdd, leastOdd}, noTwo: true,
		},
		{
			name: "a chain", from: []int{4, 10, 16}, to: []int{10, 16, 22},
			ones: []int{10, 16, 22, 22, 28, 34, 0, 1, mostOdd, leastOdd}, noTwo: true,
		},
		{
			name: "a chain, from its end", from: []int{16, 10, 4}, to: []int{22, 16, 10},
			ones: []int{10, 16, 22, 22, 28, 34, 0, 1, mostOdd, leastOdd}, noTwo: true,
		},
		{
			name: "a circle of two", from: []int{4, 10}, to: []int{10, 4},
			ones: []int{10, 4, 16, 22, 28, 34, 0, 1, mostOdd, leastOdd}, noTwo: true,
		},
		{
			name: "a circle of three", from: []int{28, 4, 16}, to: []int{4, 16, 28},
			ones: []int{16, 10, 28, 22, 4, 34, 0, 1, mostOdd, leastOdd}, noTwo: true,
		},
		{
			name: "a circle of all", from: []int{4, 10, 16, 22, 28, 34}, to: []int{10, 16, 22, 28, 34, 4},
			ones: []int{10, 16, 22, 28, 34, 4, 0, 1, mostOdd, leastOdd}, noTwo: true,
		},
		{
			name: "all, three by three", from: []int{4, 10, 16}, to: []int{34, 28, 22},
			ones: []int{34, 28, 22, 22, 28, 34, 0, 1, mostOdd, leastOdd},
			twos: []int{34, 28, 22, 16, 10, 4, 0, 1, mostOdd, leastOdd},
		},
		{name: "one twice", from: []int{4, 4}, to: []int{10, 16}, noOne: true, noTwo: true},
	}
}

func TestWhoBecomesWhom(t *testing.T) {
	for _, c := range pairsAndWhatComes() {
		for _, form := range []int{api.Plain, api.Weak} {
			a := asked{row(form, all()...), c.from, c.to, all()}
			h, roots, f := a.one()
			if !c.noOne {
				answered{row(form, c.ones...), c.ones}.hold(t, "One: "+c.name, h, roots, f)
				holdE3(t, a)
			} else {
				refused(t, "One: "+c.name, fault(api.ErrTwice, 1))(h, roots, f)
			}
			h, roots, f = a.two()
			if !c.noTwo {
				answered{row(form, c.twos...), c.twos}.hold(t, "Two: "+c.name, h, roots, f)
				holdE3(t, a)
			} else if f.Code != api.ErrTwice {
				t.Error(c.name, f)
			}
		}
	}
}

func TestBytesStay(t *testing.T) {
	for _, c := range pairsAndWhatComes() {
		bytes := []int{4, 10, 16, 22, 28, 34, 0, 1, 254, 255}
		a := asked{row(api.Bytes, bytes...), c.from, c.to, all()}
		if !c.noOne {
			h, roots, f := a.one()
			answered{row(api.Bytes, bytes...), c.ones}.hold(t, "One: "+c.name, h, roots, f)
		}
		if !c.noTwo {
			h, roots, f := a.two()
			answered{row(api.Bytes, bytes...), c.twos}.hold(t, "Two: "+c.name, h, roots, f)
		}
	}
}

func TestClassesTurn(t *testing.T) {
	// Of each form one thing: the references 4, 10, 18, 26. The class of each
	// is another one, of the last it is itself.
	front := []int{0, 20}
	words := joined(front, []int{10, 9, 0}, []int{18, 4, 5, 26}, []int{4, 19, 6, 26}, []int{26, 1, 4, 4})
	for _, c := range []struct {
		name     string
		from, to []int
		one, two []int
	}{
		{
			"of Plain", []int{10}, []int{4},
			joined(front, []int{4, 9, 0}, []int{18, 4, 5, 26}, []int{4, 19, 6, 26}, []int{26, 1, 4, 4}),
			joined(front, []int{4, 9, 0}, []int{18, 4, 5, 26}, []int{10, 19, 6, 26}, []int{26, 1, 4, 10}),
		},
		{
			"of Bytes", []int{18}, []int{26},
			joined(front, []int{10, 9, 0}, []int{26, 4, 5, 26}, []int{4, 19, 6, 26}, []int{26, 1, 4, 4}),
			joined(front, []int{10, 9, 0}, []int{26, 4, 5, 26}, []int{4, 19, 6, 18}, []int{18, 1, 4, 4}),
		},
		{
			"of Weak", []int{4}, []int{18},
			joined(front, []int{10, 9, 0}, []int{18, 4, 5, 26}, []int{18, 19, 6, 26}, []int{26, 1, 4, 18}),
			joined(front, []int{10, 9, 0}, []int{4, 4, 5, 26}, []int{18, 19, 6, 26}, []int{26, 1, 4, 18}),
		},
		{
			"of itself", []int{26}, []int{10},
			joined(front, []int{10, 9, 0}, []int{18, 4, 5, 26}, []int{4, 19, 6, 10}, []int{10, 1, 4, 4}),
			joined(front, []int{26, 9, 0}, []int{18, 4, 5, 26}, []int{4, 19, 6, 10}, []int{10, 1, 4, 4}),
		},
		{
			"two at once", []int{4, 10}, []int{18, 26},
			joined(front, []int{26, 9, 0}, []int{18, 4, 5, 26}, []int{18, 19, 6, 26}, []int{26, 1, 4, 18}),
			joined(front, []int{26, 9, 0}, []int{4, 4, 5, 26}, []int{18, 19, 6, 10}, []int{10, 1, 4, 18}),
		},
	} {
		a := asked{words, c.from, c.to, nil}
		h, roots, f := a.one()
		answered{c.one, nil}.hold(t, "One: "+c.name, h, roots, f)
		h, roots, f = a.two()
		answered{c.two, nil}.hold(t, "Two: "+c.name, h, roots, f)
		holdE3(t, a)
	}
	// A class that is nil stays so.
	a := asked{[]int{0, 3, 0, 1, 0, 0, 2, 0}, []int{4}, []int{10}, nil}
	h, roots, f := a.one()
	answered{a.words, nil}.hold(t, "One: nil", h, roots, f)
	h, roots, f = a.two()
	answered{a.words, nil}.hold(t, "Two: nil", h, roots, f)
}

func TestRootsTurn(t *testing.T) {
	words := row(api.Plain)
	for _, c := range []struct{ roots, one, two []int }{
		{nil, nil, nil},
		{[]int{}, nil, nil},
		{[]int{4}, []int{10}, []int{10}},
		{[]int{10}, []int{10}, []int{4}},
		{[]int{16}, []int{16}, []int{16}},
		{[]int{0}, []int{0}, []int{0}},
		{[]int{5}, []int{5}, []int{5}},
		{[]int{4, 4, 10, 4, 10}, []int{10, 10, 10, 10, 10}, []int{10, 10, 4, 10, 4}},
		{
			[]int{leastOdd, 34, 4, 0, mostOdd, 10, 0, 34, 4},
			[]int{leastOdd, 34, 10, 0, mostOdd, 10, 0, 34, 10},
			[]int{leastOdd, 34, 10, 0, mostOdd, 4, 0, 34, 10},
		},
	} {
		a := asked{words, []int{4}, []int{10}, c.roots}
		h, roots, f := a.one()
		answered{words, c.one}.hold(t, "One", h, roots, f)
		h, roots, f = a.two()
		answered{words, c.two}.hold(t, "Two", h, roots, f)
		holdE3(t, a)
	}
}

// Who nobody comes to becomes another, too, and its own slots turn; who is no
// more named stays where it is.
func TestThingsStayAlsoWhereNobodyComesToThem(t *testing.T) {
	words := []int{0, 77, 0, 5, 4, 12, 0, 76, 6, 4}
	a := asked{words, []int{4}, []int{12}, []int{3}}
	h, roots, f := a.one()
	answered{[]int{0, 77, 0, 5, 4, 12, 0, 76, 6, 12}, []int{3}}.hold(t, "One", h, roots, f)
	h, roots, f = a.two()
	answered{[]int{0, 77, 0, 5, 4, 4, 0, 76, 6, 12}, []int{3}}.hold(t, "Two", h, roots, f)
	holdE3(t, a)
}

func TestTheFirstTwoWordsStay(t *testing.T) {
	for _, next := range []int{3, 4, 77, maxHash, maxHash + 1} {
		words := []int{0, next, 0, 1, 0, 0, 2, 0}
		for _, list := range [][]int{nil, {4}} {
			a := asked{words, list, slices.Repeat([]int{10}, len(list)), nil}
			h, roots, f := a.one()
			answered{words, nil}.hold(t, "One", h, roots, f)
			h, roots, f = a.two()
			answered{words, nil}.hold(t, "Two", h, roots, f)
		}
	}
	none := asked{[]int{0, 1}, nil, nil, []int{0, 3}}
	h, roots, f := none.one()
	answered{[]int{0, 1}, []int{0, 3}}.hold(t, "One: no thing", h, roots, f)
	h, roots, f = none.two()
	answered{[]int{0, 1}, []int{0, 3}}.hold(t, "Two: no thing", h, roots, f)
}

// holdE3 asks all that E3 says of what comes of a, where there is no fault,
// and that things stay where they are.
func holdE3(t *testing.T, a asked) {
	t.Helper()
	if h, roots, f := a.one(); f == fine {
		holdStay(t, a, h, roots)
		for _, o := range append(named(h), roots...) {
			if slices.Contains(a.from, o) && !slices.Contains(a.to, o) {
				t.Errorf("%v: %d is named still: %v %v", a, o, h, roots)
				break
			}
		}
	}
	if h, roots, f := a.two(); f == fine {
		holdStay(t, a, h, roots)
		k, others, f := Two(h, a.from, a.to, roots)
		answered{a.words, a.roots}.hold(t, "Two done twice", k, others, f)
		k, others, f = Two(h, a.to, a.from, roots)
		answered{a.words, a.roots}.hold(t, "Two done back", k, others, f)
	}
}

// named answers all classes of h, and all slots that are references.
func named(h api.Heap) []int {
	var names []int
	v, _ := heap.See(h)
	for _, o := range v.Things() {
		x := v.Look(o)
		names = append(names, x.Class)
		if x.Form != api.Bytes {
			names = append(names, x.Slots...)
		}
	}
	return names
}

// holdStay asks whether k and its roots may be, and whether all things stand
// there as they stood.
func holdStay(t *testing.T, a asked, k api.Heap, roots []int) {
	t.Helper()
	h := api.Heap{Words: a.words}
	if _, f := reach.Reach(k, roots); heap.Check(k) != fine || f != fine {
		t.Errorf("%v: what comes out may not be: %v %v %v", a, k, roots, f)
		return
	}
	were, _ := heap.See(h)
	are, _ := heap.See(k)
	if !slices.Equal(were.Things(), are.Things()) || k.Words[1] != h.Words[1] || len(roots) != len(a.roots) {
		t.Errorf("%v: things moved: %v %v", a, k, roots)
		return
	}
	for _, o := range were.Things() {
		x, y := were.Look(o), are.Look(o)
		if x.Hash != y.Hash || x.Form != y.Form || len(x.Slots) != len(y.Slots) {
			t.Errorf("%v: %d is another: %v", a, o, k)
		}
	}
}

func TestListsThatAreNotAsLong(t *testing.T) {
	words := row(api.Plain)
	for _, c := range []struct{ from, to []int }{
		{nil, []int{4}},
		{[]int{4}, nil},
		{[]int{4}, []int{10, 16}},
		{[]int{4, 16}, []int{10}},
		{[]int{4, 4}, []int{10}},
		{[]int{0}, []int{4, 10}},
		{[]int{4, 10}, []int{2}},
		{[]int{4, 10, 16, 22, 28, 34}, []int{10, 16, 22, 28, 34}},
		{[]int{6, 4, 4}, []int{6, 6}},
	} {
		a := asked{words, c.from, c.to, []int{4}}
		refused(t, "One", fault(api.ErrSize, 0))(a.one())
		refused(t, "Two", fault(api.ErrSize, 0))(a.two())
	}
}

// noThings are no references of things of row(api.Plain, 0).
func noThings() []int {
	return []int{
		0, 1, -1, 5, 2, 3, 6, 8, 12, 32, 36, 38, 40, 42, 3998, 4000, -2, -4, mostOdd, mostOdd + 1, mostOdd + 2,
		leastOdd, leastOdd - 1, leastOdd - 2, math.MinInt, math.MinInt + 1, math.MaxInt - 1, math.MaxInt,
	}
}

func TestWhoIsNoThing(t *testing.T) {
	words := row(api.Plain, 0)
	from, to := []int{4, 16, 28}, []int{10, 22, 34}
	for _, o := range noThings() {
		for at := range from {
			noFrom, noTo := with(from, at, o), with(to, at, o)
			asks := []asked{{words, noFrom, to, nil}, {words, from, noTo, nil}, {words, noFrom, noTo, nil}}
			// The first of several, on whichever side it is.
			for later := at + 1; later < len(from); later++ {
				asks = append(asks, asked{words, with(from, later, o), noTo, nil})
				asks = append(asks, asked{words, noFrom, with(to, later, o), nil})
			}
			for _, a := range asks {
				refused(t, "One", fault(api.ErrKind, at))(a.one())
				refused(t, "Two", fault(api.ErrKind, at))(a.two())
			}
		}
		none := asked{[]int{0, 1}, []int{o}, []int{o}, nil}
		refused(t, "One", fault(api.ErrKind, 0))(none.one())
		refused(t, "Two", fault(api.ErrKind, 0))(none.two())
	}
}

// with answers the list with the one at that place replaced.
func with(list []int, at, what int) []int {
	out := slices.Clone(list)
	out[at] = what
	return out
}

// No thing of the heap 0 1 can be told of: 4 is none there.
func TestNoThingThere(t *testing.T) {
	a := asked{[]int{0, 1}, []int{4}, []int{4}, nil}
	refused(t, "One", fault(api.ErrKind, 0))(a.one())
	refused(t, "Two", fault(api.ErrKind, 0))(a.two())
}

func TestTwice(t *testing.T) {
	words := row(api.Plain)
	for _, c := range []struct {
		name     string
		from, to []int
		one, two api.Fault
	}{
		{"from twice", []int{4, 4}, []int{10, 16}, fault(api.ErrTwice, 1), fault(api.ErrTwice, 1)},
		{"from twice, far apart", []int{4, 16, 28, 4}, []int{10, 22, 34, 34}, fault(api.ErrTwice, 3), fault(api.ErrTwice, 3)},
		{"from three times", []int{16, 4, 4, 4}, []int{22, 10, 10, 10}, fault(api.ErrTwice, 2), fault(api.ErrTwice, 2)},
		{"a pair twice", []int{4, 4}, []int{10, 10}, fault(api.ErrTwice, 1), fault(api.ErrTwice, 1)},
		{"from twice, itself", []int{4, 4}, []int{4, 4}, fault(api.ErrTwice, 1), fault(api.ErrTwice, 0)},
		{"to twice", []int{4, 16}, []int{10, 10}, fine, fault(api.ErrTwice, 1)},
		{"to twice, later", []int{4, 16, 28}, []int{10, 22, 22}, fine, fault(api.ErrTwice, 2)},
		{"from is to ahead", []int{4, 10}, []int{10, 16}, fine, fault(api.ErrTwice, 1)},
		{"to is from ahead", []int{4, 16}, []int{10, 4}, fine, fault(api.ErrTwice, 1)},
		{"a pair back", []int{4, 10}, []int{10, 4}, fine, fault(api.ErrTwice, 1)},
		{"itself", []int{4}, []int{4}, fine, fault(api.ErrTwice, 0)},
		{"itself, behind another pair", []int{4, 16}, []int{10, 16}, fine, fault(api.ErrTwice, 1)},
		{"itself, ahead of another pair", []int{16, 4}, []int{16, 10}, fine, fault(api.ErrTwice, 0)},
		{"itself, that was to", []int{4, 10}, []int{10, 10}, fine, fault(api.ErrTwice, 1)},
		{"itself, that was from", []int{4, 4}, []int{10, 4}, fault(api.ErrTwice, 1), fault(api.ErrTwice, 1)},
		{"two faults of Two, one of One", []int{4, 10, 4}, []int{10, 16, 22}, fault(api.ErrTwice, 2), fault(api.ErrTwice, 1)},
		{"all but the last", []int{4, 16, 28}, []int{10, 22, 4}, fine, fault(api.ErrTwice, 2)},
		{"each once", []int{4, 16, 28}, []int{10, 22, 34}, fine, fine},
	} {
		a := asked{words, c.from, c.to, []int{4, 3}}
		for _, side := range []struct {
			name string
			ask  func() (api.Heap, []int, api.Fault)
			want api.Fault
		}{{"One: ", a.one, c.one}, {"Two: ", a.two, c.two}} {
			h, roots, f := side.ask()
			if side.want != fine {
				refused(t, side.name+c.name, side.want)(h, roots, f)
			} else if f != fine || len(h.Words) != len(words) || len(roots) != 2 {
				t.Error(side.name, c.name, h, roots, f)
			}
		}
	}
}

// Who is named first by the chapter is told, at whichever place the others are.
func TestWhichFaultIsFirst(t *testing.T) {
	words := row(api.Plain)
	bad := with(words, 3, 9)
	short, twice := []int{4}, []int{4, 4}
	noThing := []int{10, 16, 22, 2}
	for _, c := range []struct {
		name string
		a    asked
		want api.Fault
	}{
		{"the heap, then roots", asked{bad, nil, nil, []int{2}}, fault(api.ErrTwice, 2)},
		{"the heap, then lists", asked{bad, short, twice, nil}, fault(api.ErrTwice, 2)},
		{"the heap, then no thing", asked{bad, []int{2}, []int{4}, nil}, fault(api.ErrTwice, 2)},
		{"roots, then lists", asked{words, short, twice, []int{0, 1, 4, 6}}, fault(api.ErrKind, 3)},
		{"roots, then no thing", asked{words, []int{2}, []int{4}, []int{0, 6}}, fault(api.ErrKind, 1)},
		{"roots, then twice", asked{words, twice, []int{10, 16}, []int{2}}, fault(api.ErrKind, 0)},
		{"lists, then no thing", asked{words, []int{2}, []int{3, 4}, nil}, fault(api.ErrSize, 0)},
		{"lists, then twice", asked{words, []int{4, 4, 4}, twice, nil}, fault(api.ErrSize, 0)},
		{"lists, then no thing and twice", asked{words, []int{4, 4, 6}, noThing, nil}, fault(api.ErrSize, 0)},
		{"no thing behind twice, of to", asked{words, []int{4, 4, 4, 4}, noThing, nil}, fault(api.ErrKind, 3)},
		{"no thing behind twice, of from", asked{words, noThing, []int{10, 10, 10, 10}, nil}, fault(api.ErrKind, 3)},
		{"no thing behind itself", asked{words, []int{4, 0}, []int{4, 10}, nil}, fault(api.ErrKind, 1)},
		{"no thing twice", asked{words, []int{4, 7, 7}, []int{10, 16, 22}, nil}, fault(api.ErrKind, 1)},
	} {
		refused(t, "One: "+c.name, c.want)(c.a.one())
		refused(t, "Two: "+c.name, c.want)(c.a.two())
	}
}

func TestFaultsOfTheHeapAndRoots(t *testing.T) {
	both := func(words, roots []int, want api.Fault) {
		t.Helper()
		for _, lists := range [][2][]int{{nil, nil}, {{4}, {10}}, {{4}, nil}, {{2}, {0}}, {{4, 4}, {4, 4}}} {
			a := asked{words, lists[0], lists[1], roots}
			refused(t, "One", want)(a.one())
			refused(t, "Two", want)(a.two())
		}
	}
	for _, roots := range [][]int{nil, {4}, {2}, {0, 1, 3999, 6}} {
		both(nil, roots, fault(api.ErrSize, 0))
		both([]int{0}, roots, fault(api.ErrSize, 0))
		both(make([]int, maxWords+1), roots, fault(api.ErrSize, 0))
		both([]int{1, 1}, roots, fault(api.ErrForm, 0))
		both([]int{0, 0}, roots, fault(api.ErrForm, 1))
		both([]int{0, maxHash + 2}, roots, fault(api.ErrForm, 1))
		both([]int{0, 2, 0, 1, 3}, roots, fault(api.ErrForm, 2))
		both([]int{0, 3, 0, 1, 0, 0, 2}, roots, fault(api.ErrForm, 5))
		both([]int{0, 2, 6, 1, 0}, roots, fault(api.ErrKind, 2))
		both([]int{0, 3, 0, 1, 0, 0, 1, 0}, roots, fault(api.ErrTwice, 5))
		both([]int{0, 3, 0, 1, 0, 0, 2, 4, 6}, roots, fault(api.ErrKind, 8))
		both([]int{0, 3, 0, 1, 0, 0, 2, 5, 256}, roots, fault(api.ErrKind, 8))
	}
	two := []int{0, 3, 0, 1, 0, 0, 2, 4, 0}
	for _, o := range []int{
		2, 6, 8, 12, 16, 18, 3998, 4000, -2, -4, mostOdd + 1, mostOdd + 2, leastOdd - 1, leastOdd - 2,
		math.MinInt, math.MinInt + 1, math.MaxInt - 1, math.MaxInt,
	} {
		both(two, []int{o}, fault(api.ErrKind, 0))
		both(two, []int{4, 10, 0, 1, o}, fault(api.ErrKind, 4))
		both(two, []int{10, o, 2, o}, fault(api.ErrKind, 1))
	}
}

// dice are numbers from a fixed rule.
type dice uint64

func (d *dice) below(n int) int {
	*d = *d*6364136223846793005 + 1442695040888963407
	return int(uint64(*d)>>33) % n
}

func (d *dice) one(list []int) int { return list[d.below(len(list))] }

func (d *dice) shuffled(list []int) []int {
	out := slices.Clone(list)
	for i := range out {
		j := i + d.below(len(out)-i)
		out[i], out[j] = out[j], out[i]
	}
	return out
}

// heapOf answers a heap of n things that hold one another, and the references
// of all.
func (d *dice) heapOf(n int) ([]int, []int) {
	sizes, refs, hashes := make([]int, n), make([]int, n), make([]int, n)
	place := 2
	for i := range n {
		sizes[i], refs[i], hashes[i] = d.below(4), 2*place, i+1
		place += 3 + sizes[i]
	}
	hashes = d.shuffled(hashes)
	words := []int{0, n + 1 + d.below(3)}
	for i := range n {
		form := d.below(3)
		words = append(words, d.one(append(refs, 0)), hashes[i], 4*sizes[i]+form)
		for range sizes[i] {
			if form == api.Bytes {
				words = append(words, d.below(128))
			} else {
				words = append(words, d.anyone(refs))
			}
		}
	}
	return words, refs
}

// anyone answers one of refs, mostly, else nil or a small one.
func (d *dice) anyone(refs []int) int { return d.one(slices.Concat(refs, refs, []int{0, 1, 7})) }

// lists answers two lists of things: each thing at most once in both, or at
// most once in from, or as it comes.
func (d *dice) lists(refs []int) (from, to []int) {
	mixed := d.shuffled(refs)
	switch many := d.below(len(refs)); d.below(3) {
	case 0:
		return mixed[:many/2], mixed[many/2 : many/2*2]
	case 1:
		for range many {
			to = append(to, d.one(refs))
		}
		return mixed[:many], to
	default:
		for range many {
			from, to = append(from, d.one(refs)), append(to, d.one(refs))
		}
		return from, to
	}
}

// asking answers a whole question without a fault of C1.
func (d *dice) asking() asked {
	words, refs := d.heapOf(1 + d.below(10))
	from, to := d.lists(refs)
	var roots []int
	for range d.below(5) {
		roots = append(roots, d.anyone(refs))
	}
	return asked{words, from, to, roots}
}

// wantFault is E1 said over again: each place is held against all ahead of it.
func wantFault(a asked, two bool) api.Fault {
	h := api.Heap{Words: a.words}
	if _, f := reach.Reach(h, a.roots); f != fine {
		return f
	}
	if len(a.from) != len(a.to) {
		return fault(api.ErrSize, 0)
	}
	things, _ := heap.Things(h)
	for i := range a.from {
		if !slices.Contains(things, a.from[i]) || !slices.Contains(things, a.to[i]) {
			return fault(api.ErrKind, i)
		}
	}
	for i := range a.from {
		one, other := a.from[i], a.to[i]
		twice := slices.Contains(a.from[:i], one)
		if two {
			ahead := slices.Concat(a.from[:i], a.to[:i])
			twice = twice || slices.Contains(ahead, one) || slices.Contains(ahead, other) || one == other
		}
		if twice {
			return fault(api.ErrTwice, i)
		}
	}
	return fine
}

// want is E2 said over again, word by word.
func want(a asked, two bool) answered {
	turn := func(o int) int {
		if at := slices.Index(a.from, o); at >= 0 {
			return a.to[at]
		}
		if at := slices.Index(a.to, o); two && at >= 0 {
			return a.from[at]
		}
		return o
	}
	out := answered{slices.Clone(a.words), slices.Clone(a.roots)}
	for at := 2; at < len(out.words); {
		out.words[at] = turn(out.words[at])
		size, form := out.words[at+2]/4, out.words[at+2]%4
		at += 3
		for range size {
			if form != api.Bytes {
				out.words[at] = turn(out.words[at])
			}
			at++
		}
	}
	for i, o := range out.roots {
		out.roots[i] = turn(o)
	}
	return out
}

// holdAll holds One and Two of a against the chapter; it answers whether there
// was a fault of each.
func holdAll(t *testing.T, a asked) (bool, bool) {
	t.Helper()
	var faults [2]bool
	for i, ask := range []func() (api.Heap, []int, api.Fault){a.one, a.two} {
		h, roots, f := ask()
		wanted := wantFault(a, i == 1)
		if faults[i] = wanted != fine; faults[i] {
			refused(t, "a fault", wanted)(h, roots, f)
		} else {
			want(a, i == 1).hold(t, "no fault", h, roots, f)
		}
	}
	holdE3(t, a)
	return faults[0], faults[1]
}

func TestAgainstTheChapter(t *testing.T) {
	d := dice(1)
	var ones, twos int
	const many = 8000
	for range many {
		one, two := holdAll(t, d.asking())
		if one {
			ones++
		}
		if two {
			twos++
		}
		if t.Failed() {
			return
		}
	}
	if ones < 500 || ones > many-500 || twos < 500 || twos > many-500 {
		t.Error("one-sided", ones, twos)
	}
}

// Whatever the words, the lists and the roots are, each call ends, and where
// there is a fault all else is zero.
func TestAnyWordsListsAndRoots(t *testing.T) {
	d := dice(2)
	odd := []int{
		math.MinInt, math.MaxInt, math.MinInt / 2, math.MaxInt / 2, -4, -1, 0, 1, 2, 3, 4, 5, 6, 8, 9, 10, 12, 16, 20,
		255, 256, 3998, 4000, 10001, 10002, leastOdd - 2, leastOdd, mostOdd, mostOdd + 2,
	}
	codes := map[api.Errno]int{}
	for range 30000 {
		a := d.asking()
		lists := []*[]int{&a.words, &a.from, &a.to, &a.roots}
		for range 1 + d.below(2) {
			list := lists[d.below(4)]
			*list = slices.Clone(*list)
			if d.below(8) == 0 || len(*list) == 0 {
				*list = append(*list, odd[d.below(len(odd))])
			} else {
				(*list)[d.below(len(*list))] = odd[d.below(len(odd))]
			}
		}
		holdAll(t, a)
		if t.Failed() {
			return
		}
		codes[wantFault(a, true).Code]++
	}
	for _, code := range []api.Errno{api.OK, api.ErrSize, api.ErrForm, api.ErrKind, api.ErrTwice} {
		if codes[code] < 500 {
			t.Error("one-sided", code, codes)
		}
	}
	for many := range 12 {
		for range 2000 {
			list := make([]int, many)
			for i := range list {
				list[i] = odd[d.below(len(odd))]
			}
			holdAll(t, asked{list, list, list, list})
			holdAll(t, asked{[]int{0, 3, 0, 1, 0, 0, 2, 4, 4}, list, list, list})
			holdAll(t, asked{[]int{0, 3, 0, 1, 0, 0, 2, 4, 4}, list, d.shuffled(list), nil})
		}
	}
}

// long answers a heap of most things, each of which has the next one as its
// class, and their references.
func long() ([]int, []int) {
	const many = 666
	words, refs := []int{0, many + 1}, make([]int, many)
	for i := range refs {
		refs[i] = 2 * (2 + 3*i)
		words = append(words, 2*(2+3*((i+1)%many)), i+1, 0)
	}
	return words, refs
}

func TestAllThingsOfAFullHeap(t *testing.T) {
	words, refs := long()
	next := append(slices.Clone(refs[1:]), refs[0])
	half := len(refs) / 2
	fell := slices.Clone(refs)
	slices.Reverse(fell)
	for _, a := range []asked{
		{words, refs, next, refs},
		{words, next, refs, refs},
		{words, refs, refs, refs},
		{words, refs, slices.Repeat([]int{4}, len(refs)), refs},
		{words, refs[:half], refs[half:], refs},
		{words, fell[:half], refs[:half], refs},
		{words, refs, fell, refs},
	} {
		holdAll(t, a)
	}
	// Round and round, all are who they were.
	h, roots, f := api.Heap{Words: words}, refs, fine
	for range refs {
		if h, roots, f = One(h, refs, next, roots); f != fine {
			t.Fatal(f)
		}
	}
	answered{words, refs}.hold(t, "round", h, roots, f)
}

func TestFullThings(t *testing.T) {
	words := []int{0, maxHash + 1}
	for len(words)+3+maxSize <= maxWords {
		words = append(words, 4, maxHash-len(words), 4*maxSize)
		words = append(words, slices.Repeat([]int{4, 130}, maxSize/2)...)
	}
	rest := maxWords - len(words) - 3
	words = append(words, 4, 1, 4*rest+2)
	words = append(words, slices.Repeat([]int{130}, rest)...)
	a := asked{words, []int{4}, []int{130}, []int{4, 130}}
	if len(words) != maxWords || heap.Check(api.Heap{Words: words}) != fine {
		t.Fatal(len(words), heap.Check(api.Heap{Words: words}))
	}
	if one, two := holdAll(t, a); one || two {
		t.Error(one, two)
	}
}

func TestManyRootsAndLongLists(t *testing.T) {
	words := row(api.Plain)
	roots := make([]int, 200000)
	for i := range roots {
		roots[i] = all()[i%10]
	}
	a := asked{words, []int{4, 16}, []int{10, 22}, roots}
	if one, two := holdAll(t, a); one || two {
		t.Error(one, two)
	}
	things := make([]int, 200000)
	for i := range things {
		things[i] = all()[i%6]
	}
	a = asked{words, things, things, nil}
	refused(t, "One", fault(api.ErrTwice, 6))(a.one())
	refused(t, "Two", fault(api.ErrTwice, 0))(a.two())
	a.to = things[1:]
	refused(t, "One", fault(api.ErrSize, 0))(a.one())
	refused(t, "Two", fault(api.ErrSize, 0))(a.two())
	a.to = append(slices.Clone(things[1:]), 6)
	refused(t, "One", fault(api.ErrKind, 199999))(a.one())
	refused(t, "Two", fault(api.ErrKind, 199999))(a.two())
}

// guarded answers a list with room behind its length, and a look at whether
// anything there or in the list has been changed.
func guarded(list []int) ([]int, func() bool) {
	whole := append(slices.Clone(list), 78, 78, 78, 78, 78, 78, 78, 78)
	before := slices.Clone(whole)
	return whole[:len(list)], func() bool { return slices.Equal(whole, before) }
}

// trample changes all that a list holds, also behind its length.
func trample(list []int) {
	list = list[:cap(list)]
	for i := range list {
		list[i] = -99
	}
}

func TestNothingIsChangedKeptOrShared(t *testing.T) {
	words := row(api.Weak, all()...)
	for _, c := range []asked{
		{words, []int{4, 16}, []int{10, 22}, all()},
		{words, []int{4, 10}, []int{10, 4}, all()},
		{words, nil, nil, all()},
		{words, nil, nil, nil},
		{words, []int{4, 4}, []int{10, 16}, all()},
		{words, []int{4, 6}, []int{10, 16}, all()},
		{words, []int{4}, []int{10, 16}, all()},
		{words, []int{4}, []int{10}, []int{4, 6}},
	} {
		for i, ask := range []func(api.Heap, []int, []int, []int) (api.Heap, []int, api.Fault){One, Two} {
			var wanted answered
			if wantFault(c, i == 1) == fine {
				wanted = want(c, i == 1)
			}
			words, sameWords := guarded(c.words)
			from, sameFrom := guarded(c.from)
			to, sameTo := guarded(c.to)
			roots, sameRoots := guarded(c.roots)
			same := func() bool { return sameWords() && sameFrom() && sameTo() && sameRoots() }
			k, others, _ := ask(api.Heap{Words: words}, from, to, roots)
			again, once, _ := ask(api.Heap{Words: words}, from, to, roots)
			if !same() {
				t.Fatal(c, "changed", words, from, to, roots)
			}
			trample(k.Words)
			if !same() || !slices.Equal(others, wanted.roots) {
				t.Error(c, "the words are shared", others)
			}
			trample(others)
			if !same() {
				t.Error(c, "the roots are shared")
			}
			for _, list := range [][]int{words, from, to, roots} {
				trample(list)
			}
			if !slices.Equal(again.Words, wanted.words) || !slices.Equal(once, wanted.roots) {
				t.Error(c, "kept, or shared by two answers", again, once)
			}
		}
	}
}

// All that is handed in may be one list.
func TestOneListForAll(t *testing.T) {
	words := []int{0, 5, 4, 1, 4, 4, 0, 2, 0}
	for i, ask := range []func(api.Heap, []int, []int, []int) (api.Heap, []int, api.Fault){One, Two} {
		list := slices.Clone(words)
		h, roots, f := ask(api.Heap{Words: list}, list[4:5], list[4:5], list[:5])
		if i == 1 {
			refused(t, "Two", fault(api.ErrTwice, 0))(h, roots, f)
			continue
		}
		answered{words, words[:5]}.hold(t, "One", h, roots, f)
		trample(h.Words)
		if !slices.Equal(list, words) || !slices.Equal(roots, words[:5]) {
			t.Error("shared", list, roots)
		}
	}
}
