package tri

import (
	"math"
	"slices"
	"testing"

	"gesso/api"
	"gesso/heap"
	"gesso/reach"
)

// Limits and colours stand here as plain digits, so that a slip in how the
// program works them out is seen.
const (
	maxWords = 2000
	maxSize  = 60
	maxHash  = 10000
	mostOdd  = 2147483647
	leastOdd = -2147483647

	white, grey, black = 0, 1, 2
)

var fine = api.Fault{}

// The ops, each with the fields alone that its kind names.
func scan() api.Op                { return api.Op{Kind: 1} }
func put(o, at, what int) api.Op  { return api.Op{Kind: 2, O: o, At: at, What: what} }
func anew(form, size int) api.Op  { return api.Op{Kind: 3, Form: form, Size: size} }
func root(at, what int) api.Op    { return api.Op{Kind: 4, At: at, What: what} }
func ops(all ...api.Op) []api.Op  { return all }
func joined(parts ...[]int) []int { return slices.Concat(parts...) }

// scans answers that many OpScans.
func scans(many int) []api.Op { return slices.Repeat(ops(scan()), many) }

// front is the two words ahead of all things, where it does not matter which.
func front() []int { return []int{0, 9} }

// told is a heap with its roots, what is done, and what is to come of it. Where
// words or roots are not told anew, they are to be as they were.
type told struct {
	name         string
	words, roots []int
	ops          []api.Op
	colours      []int
	freed        []int
	want, wanted []int
}

func (c told) hold(t *testing.T) {
	t.Helper()
	if c.want == nil {
		c.want = c.words
	}
	if c.wanted == nil {
		c.wanted = c.roots
	}
	want := api.Play{
		H: api.Heap{Words: c.want}, Roots: c.wanted, Colours: c.colours,
		Done: !slices.Contains(c.colours, grey), Freed: c.freed,
	}
	p, f := Play(api.Heap{Words: c.words}, c.roots, c.ops)
	if f != fine || !same(p, want) {
		t.Errorf("%s: %v %v, want %v", c.name, p, f, want)
	}
	holdS3(t, c.name, api.Heap{Words: c.words}, c.roots, c.ops)
}

// same tells whether two answers are; an empty list may be nil or not.
func same(p, q api.Play) bool {
	return slices.Equal(p.H.Words, q.H.Words) && slices.Equal(p.Roots, q.Roots) &&
		slices.Equal(p.Colours, q.Colours) && p.Done == q.Done && slices.Equal(p.Freed, q.Freed)
}

// holdS3 asks all that S3 says of what comes of ops, and what follows for the
// end, when there have been OpScans enough: just who was not reached at first
// is let go.
func holdS3(t *testing.T, name string, h api.Heap, roots []int, all []api.Op) {
	t.Helper()
	lost := notReached(t, h, roots)
	p, _ := Play(h, roots, all)
	holdPlay(t, name, p, lost)
	if p.Done && !slices.Equal(p.Freed, lost) {
		t.Errorf("%s: freed %v, not reached at first %v", name, p.Freed, lost)
	}
	end, _ := Play(h, roots, slices.Concat(all, scans(len(p.Colours))))
	holdPlay(t, name, end, lost)
	if !end.Done || !slices.Equal(end.Freed, lost) || !slices.Equal(end.H.Words, p.H.Words) || !slices.Equal(end.Roots, p.Roots) {
		t.Errorf("%s: at the end %v, not reached at first %v", name, end, lost)
	}
}

// notReached answers the things of h, rising, that are not reached from roots.
func notReached(t *testing.T, h api.Heap, roots []int) []int {
	t.Helper()
	all, _ := heap.Things(h)
	reached, f := reach.Reach(h, roots)
	if f != fine {
		t.Error(h, roots, f)
	}
	return slices.DeleteFunc(all, func(o int) bool { return slices.Contains(reached, o) })
}

// holdPlay asks S3 of one answer, where lost were not reached at first.
func holdPlay(t *testing.T, name string, p api.Play, lost []int) {
	t.Helper()
	all, _ := heap.Things(p.H)
	reached, f := reach.Reach(p.H, p.Roots)
	if f != fine || len(all) != len(p.Colours) {
		t.Errorf("%s: no heap, no roots or no colours of it: %v %v", name, p, f)
		return
	}
	for i, o := range all {
		if p.Done && p.Colours[i] == white && slices.Contains(reached, o) {
			t.Errorf("%s: %d is reached and white: %v", name, o, p)
		}
		if p.Colours[i] != white && slices.Contains(lost, o) {
			t.Errorf("%s: %d was not reached at first, and is not white: %v", name, o, p)
		}
	}
}

func TestTheChaptersExample(t *testing.T) {
	words := joined(front(), []int{0, 1, 4, 12}, []int{0, 2, 0})
	after := joined(front(), []int{0, 1, 4, 0}, []int{0, 2, 0})
	for _, c := range []told{
		{"it is grey", words, []int{4}, ops(put(4, 0, 0)), []int{grey, grey}, nil, after, nil},
		{"it is kept", words, []int{4}, ops(put(4, 0, 0), scan(), scan()), []int{black, black}, nil, after, nil},
		{"the next time it is not", after, []int{4}, ops(scan(), scan()), []int{black, white}, []int{12}, nil, nil},
	} {
		c.hold(t)
	}
}

func TestNoOps(t *testing.T) {
	// 4 holds 12; 18 is held by nobody.
	three := joined(front(), []int{0, 1, 4, 12}, []int{0, 2, 0}, []int{0, 3, 0})
	for _, c := range []told{
		{"no things", []int{0, 1}, nil, nil, nil, nil, nil, nil},
		{"no things, empty lists", []int{0, 1}, []int{}, ops(), nil, nil, nil, nil},
		{"no things, numbers and nil", []int{0, 7}, []int{5, 0, leastOdd, mostOdd, -1}, nil, nil, nil, nil, nil},
		{"no roots", three, nil, nil, []int{white, white, white}, []int{4, 12, 18}, nil, nil},
		{"numbers and nil", three, []int{0, 5, mostOdd, 0}, nil, []int{white, white, white}, []int{4, 12, 18}, nil, nil},
		{"one", three, []int{4}, nil, []int{grey, white, white}, nil, nil, nil},
		{"one twice", three, []int{12, 12}, nil, []int{white, grey, white}, nil, nil, nil},
		{"the last", three, []int{18}, nil, []int{white, white, grey}, nil, nil, nil},
		{"several, among numbers and nil", three, []int{0, 18, 3, 4, 11}, nil, []int{grey, white, grey}, nil, nil, nil},
		{"all", three, []int{18, 12, 4}, nil, []int{grey, grey, grey}, nil, nil, nil},
	} {
		c.hold(t)
	}
}

func TestScansOneBehindTheOther(t *testing.T) {
	// 4 holds 12, which holds 20; nobody holds 26.
	row := joined(front(), []int{0, 1, 4, 12}, []int{0, 2, 4, 20}, []int{0, 3, 0}, []int{0, 4, 0})
	for _, c := range []told{
		{"one", row, []int{4}, scans(1), []int{black, grey, white, white}, nil, nil, nil},
		{"two", row, []int{4}, scans(2), []int{black, black, grey, white}, nil, nil, nil},
		{"three", row, []int{4}, scans(3), []int{black, black, black, white}, []int{26}, nil, nil},
		{"more", row, []int{4}, scans(9), []int{black, black, black, white}, []int{26}, nil, nil},
		{"from the one between", row, []int{12}, scans(2), []int{white, black, black, white}, []int{4, 26}, nil, nil},
		{"none is grey", row, []int{1, 0}, scans(3), []int{white, white, white, white}, []int{4, 12, 20, 26}, nil, nil},
		{"no roots", row, nil, scans(1), []int{white, white, white, white}, []int{4, 12, 20, 26}, nil, nil},
		{"no things", []int{0, 1}, []int{0}, scans(2), nil, nil, nil, nil},
		{"the lowest, whichever root is first", row, []int{26, 20, 12}, scans(1), []int{white, black, grey, grey}, nil, nil, nil},
		{"the next lowest", row, []int{26, 20, 12}, scans(2), []int{white, black, black, grey}, nil, nil, nil},
		{"one that was grey later, and is lower", row, []int{26, 4}, scans(2), []int{black, black, grey, grey}, nil, nil, nil},
	} {
		c.hold(t)
	}
	// 12 holds 4, and 20 nobody: 4 is grey as soon as 12 is black.
	back := joined(front(), []int{0, 1, 4, 7}, []int{0, 2, 4, 4}, []int{0, 3, 0})
	for _, c := range []told{
		{"it leads back", back, []int{20, 12}, scans(1), []int{grey, black, grey}, nil, nil, nil},
		{"and on there", back, []int{20, 12}, scans(2), []int{black, black, grey}, nil, nil, nil},
		{"and then to the end", back, []int{20, 12}, scans(3), []int{black, black, black}, nil, nil, nil},
	} {
		c.hold(t)
	}
}

func TestScanOfEachForm(t *testing.T) {
	for _, c := range []told{
		{
			// 4 is of the class 28, and holds nil, numbers, 22 twice, and 34.
			"Plain",
			joined(front(), []int{28, 1, 24, 0, 23, 22, 34, leastOdd, 22}, []int{0, 2, 0}, []int{0, 3, 0}, []int{0, 4, 0}, []int{0, 5, 0}), []int{4},
			scans(1), []int{black, grey, grey, grey, white}, nil, nil, nil,
		},
		{
			"Plain without slots", joined(front(), []int{10, 1, 0}, []int{0, 2, 0}), []int{4},
			scans(1), []int{black, grey}, nil, nil, nil,
		},
		{
			// The bytes are the references of all three.
			"Bytes",
			joined(front(), []int{16, 1, 13, 4, 16, 22}, []int{0, 2, 0}, []int{0, 3, 0}), []int{4},
			scans(1), []int{black, grey, white}, nil, nil, nil,
		},
		{
			"Bytes without a class",
			joined(front(), []int{0, 1, 9, 14, 255}, []int{0, 2, 0}), []int{4},
			scans(1), []int{black, white}, []int{14}, nil, nil,
		},
		{
			"Weak",
			joined(front(), []int{16, 1, 14, 4, 16, 22}, []int{0, 2, 0}, []int{0, 3, 0}), []int{4},
			scans(1), []int{black, grey, white}, nil, nil, nil,
		},
		{
			"Weak without a class",
			joined(front(), []int{0, 1, 10, 14, 255}, []int{0, 2, 0}), []int{4},
			scans(1), []int{black, white}, []int{14}, nil, nil,
		},
		{
			// 4 is of 10, which is of 18 and holds 24.
			"what a class leads to",
			joined(front(), []int{10, 1, 0}, []int{18, 2, 4, 24}, []int{0, 3, 0}, []int{0, 4, 0}), []int{4},
			scans(2), []int{black, black, grey, grey}, nil, nil, nil,
		},
	} {
		c.hold(t)
	}
}

func TestScanOfRings(t *testing.T) {
	ring := joined(front(), []int{0, 1, 4, 12}, []int{0, 2, 4, 20}, []int{0, 3, 4, 4})
	for _, c := range []told{
		{"its own class", joined(front(), []int{4, 1, 0}), []int{4}, scans(1), []int{black}, nil, nil, nil},
		{"it holds itself", joined(front(), []int{0, 1, 4, 4}), []int{4}, scans(1), []int{black}, nil, nil, nil},
		{"both, and once more", joined(front(), []int{4, 1, 8, 4, 4}), []int{4, 4}, scans(2), []int{black}, nil, nil, nil},
		{"two that are each other's class", joined(front(), []int{10, 1, 0}, []int{4, 2, 0}), []int{10}, scans(1), []int{grey, black}, nil, nil, nil},
		{"a black one stays black", joined(front(), []int{10, 1, 0}, []int{4, 2, 0}), []int{10}, scans(2), []int{black, black}, nil, nil, nil},
		{"a ring, half", ring, []int{12}, scans(1), []int{white, black, grey}, nil, nil, nil},
		{"a ring, nearly", ring, []int{12}, scans(2), []int{grey, black, black}, nil, nil, nil},
		{"a ring", ring, []int{12}, scans(3), []int{black, black, black}, nil, nil, nil},
		{"a ring that nobody comes to", ring, []int{7}, scans(3), []int{white, white, white}, []int{4, 12, 20}, nil, nil},
		{"a grey one stays grey", ring, []int{4, 12}, scans(1), []int{black, grey, white}, nil, nil, nil},
	} {
		c.hold(t)
	}
}

func TestDoneAndFreed(t *testing.T) {
	h := api.Heap{Words: joined(front(), []int{0, 1, 0}, []int{0, 2, 4, 18}, []int{0, 3, 0}, []int{0, 4, 0})}
	for _, c := range []struct {
		roots []int
		many  int
		done  bool
		freed []int
	}{
		{nil, 0, true, []int{4, 10, 18, 24}},
		{[]int{1}, 1, true, []int{4, 10, 18, 24}},
		{[]int{10}, 0, false, nil},
		{[]int{10}, 1, false, nil},
		{[]int{10}, 2, true, []int{4, 24}},
		{[]int{10}, 3, true, []int{4, 24}},
		{[]int{24, 4}, 1, false, nil},
		{[]int{24, 4}, 2, true, []int{10, 18}},
		{[]int{24, 10, 4}, 3, false, nil},
		{[]int{24, 10, 4}, 4, true, nil},
	} {
		p, f := Play(h, c.roots, scans(c.many))
		if f != fine || p.Done != c.done || !slices.Equal(p.Freed, c.freed) || !slices.Equal(p.H.Words, h.Words) {
			t.Error(c, p, f)
		}
	}
}

func TestOtherKindsDoNothing(t *testing.T) {
	words := joined(front(), []int{0, 1, 4, 12}, []int{0, 2, 0})
	for _, kind := range []int{0, 5, 6, -1, -4, 255, 257, 1 << 32, 1<<32 + 1, math.MinInt, math.MaxInt} {
		for _, other := range []api.Op{
			{Kind: kind},
			{Kind: kind, O: 4, At: 0, What: 7},
			{Kind: kind, Form: 1, Size: 3},
			{Kind: kind, O: 4, At: 0, What: 12, Form: 2, Size: 1},
		} {
			for _, c := range []told{
				{"alone", words, []int{4}, ops(other), []int{grey, white}, nil, nil, nil},
				{"twice", words, []int{4}, ops(other, other), []int{grey, white}, nil, nil, nil},
				{"ahead of a scan", words, []int{4}, ops(other, scan()), []int{black, grey}, nil, nil, nil},
				{"behind a scan", words, []int{4}, ops(scan(), other), []int{black, grey}, nil, nil, nil},
				{"between", words, []int{4}, ops(scan(), other, scan(), other), []int{black, black}, nil, nil, nil},
			} {
				c.hold(t)
			}
		}
	}
}

// A kind reads those fields alone that the chapter names for it.
func TestFieldsOfOtherKindsDoNothing(t *testing.T) {
	words := joined(front(), []int{0, 1, 8, 14, 7}, []int{0, 2, 0})
	for _, odd := range []int{-1, 1, 4, 14, 6, 99, math.MinInt, math.MaxInt} {
		for _, c := range []told{
			{
				"OpScan", words, []int{4}, ops(api.Op{Kind: 1, O: odd, At: odd, What: odd, Form: odd, Size: odd}),
				[]int{black, grey}, nil, nil, nil,
			},
			{
				"OpPut", words, []int{4}, ops(api.Op{Kind: 2, O: 4, At: 1, What: 9, Form: odd, Size: odd}),
				[]int{grey, white}, nil, joined(front(), []int{0, 1, 8, 14, 9}, []int{0, 2, 0}), nil,
			},
			{
				"OpNew", words, []int{4}, ops(api.Op{Kind: 3, O: odd, At: odd, What: odd, Form: 1, Size: 2}),
				[]int{grey, white, black}, nil, joined([]int{0, 10}, words[2:], []int{0, 9, 9, 0, 0}), []int{4, 20},
			},
			{
				"OpRoot", words, []int{4, 4, 5}, ops(api.Op{Kind: 4, O: odd, At: 1, What: 14, Form: odd, Size: odd}),
				[]int{grey, white}, nil, nil, []int{4, 14, 5},
			},
		} {
			c.hold(t)
		}
	}
}
