package tri

import (
	"math"
	"slices"
	"testing"

	"gesso/api"
)

// pair is a heap of four things: 4 with that form and the slots first and 7,
// which is the root; 14 of no slots; 20, which holds 28 and is held by nobody;
// and 28.
func pair(form, first int) []int {
	return joined(front(), []int{0, 1, 8 + form, first, 7}, []int{0, 2, 0}, []int{0, 3, 4, 28}, []int{0, 4, 0})
}

func TestPutIntoPlain(t *testing.T) {
	for _, c := range []told{
		{"a number over a white thing", pair(0, 14), []int{4}, ops(put(4, 0, 9)), []int{grey, grey, white, white}, nil, pair(0, 9), nil},
		{"nil over a white thing", pair(0, 14), []int{4}, ops(put(4, 0, 0)), []int{grey, grey, white, white}, nil, pair(0, 0), nil},
		{"the same over a white thing", pair(0, 14), []int{4}, ops(put(4, 0, 14)), []int{grey, grey, white, white}, nil, pair(0, 14), nil},
		{"itself over a white thing", pair(0, 14), []int{4}, ops(put(4, 0, 4)), []int{grey, grey, white, white}, nil, pair(0, 4), nil},
		{"over a grey thing", pair(0, 14), []int{4, 14}, ops(put(4, 0, 9)), []int{grey, grey, white, white}, nil, pair(0, 9), nil},
		{"over a grey thing, of a black one", pair(0, 14), []int{4}, ops(scan(), put(4, 0, 9)), []int{black, grey, white, white}, nil, pair(0, 9), nil},
		{"over a black thing", pair(0, 14), []int{4}, ops(scan(), scan(), put(4, 0, 9)), []int{black, black, white, white}, []int{20, 28}, pair(0, 9), nil},
		{"over a black thing, itself", pair(0, 4), []int{4}, ops(scan(), put(4, 0, 9)), []int{black, white, white, white}, []int{14, 20, 28}, pair(0, 9), nil},
		{"over a grey thing, itself", pair(0, 4), []int{4}, ops(put(4, 0, 9)), []int{grey, white, white, white}, nil, pair(0, 9), nil},
		{"over a number", pair(0, 15), []int{4, 14}, ops(put(4, 0, 9)), []int{grey, grey, white, white}, nil, pair(0, 9), nil},
		{"a thing over a number", pair(0, 15), []int{4, 14}, ops(put(4, 0, 14)), []int{grey, grey, white, white}, nil, pair(0, 14), nil},
		{"over nil", pair(0, 0), []int{4}, ops(put(4, 0, mostOdd)), []int{grey, white, white, white}, nil, pair(0, mostOdd), nil},
		{"the last slot", pair(0, 14), []int{4}, ops(put(4, 1, leastOdd)), []int{grey, white, white, white}, nil, joined(front(), []int{0, 1, 8, 14, leastOdd}, pair(0, 14)[7:]), nil},
		{"the first slot's thing over the last one's number", pair(0, 14), []int{4}, ops(put(4, 1, 14)), []int{grey, white, white, white}, nil, joined(front(), []int{0, 1, 8, 14, 14}, pair(0, 14)[7:]), nil},
		{"one behind the other", pair(0, 14), []int{4}, ops(put(4, 0, 1), put(4, 0, 3), put(4, 0, 5)), []int{grey, grey, white, white}, nil, pair(0, 5), nil},
	} {
		c.hold(t)
	}
}

// Whom heap.Put refuses, nothing is done: what the slot has stays white, too.
func TestPutThatIsRefused(t *testing.T) {
	left := []int{grey, white, white, white}
	for _, form := range []int{0, 2} {
		words, roots := pair(form, 14), []int{4}
		refused := func(op api.Op) {
			t.Helper()
			told{"refused", words, roots, ops(op), left, nil, nil, nil}.hold(t)
		}
		for _, o := range []int{0, 1, 2, 3, 5, 6, 8, 10, 12, 16, 34, 3998, 4000, -4, math.MinInt, math.MaxInt, math.MaxInt - 1} {
			refused(put(o, 0, 0))
		}
		for _, at := range []int{-1, 2, 3, 60, math.MinInt, math.MaxInt, 1 << 32} {
			refused(put(4, at, 0))
		}
		for _, what := range []int{2, 6, 8, 12, 16, 34, -2, -4, 3998, 4000, leastOdd - 2, leastOdd - 1, mostOdd + 1, mostOdd + 2, math.MinInt, math.MaxInt} {
			refused(put(4, 0, what))
		}
	}
	for _, op := range ops(put(4, 0, -1), put(4, 0, 256), put(4, 0, math.MaxInt), put(4, 0, math.MinInt), put(4, 2, 0), put(4, -1, 0)) {
		told{"Bytes", pair(1, 14), []int{4}, ops(op), left, nil, nil, nil}.hold(t)
	}
}

func TestPutIntoOrOfWhatIsNotReached(t *testing.T) {
	left := []int{grey, white, white, white}
	for _, c := range []told{
		{"into it", pair(0, 14), []int{4}, ops(put(20, 0, 1)), left, nil, nil, nil},
		{"nil into it", pair(0, 14), []int{4}, ops(put(20, 0, 0)), left, nil, nil, nil},
		{"what is reached into it", pair(0, 14), []int{4}, ops(put(20, 0, 4)), left, nil, nil, nil},
		{"of it", pair(0, 14), []int{4}, ops(put(4, 0, 20)), left, nil, nil, nil},
		{"of what it holds", pair(0, 14), []int{4}, ops(put(4, 0, 28)), left, nil, nil, nil},
		{"of it over a number", pair(0, 14), []int{4}, ops(put(4, 1, 20)), left, nil, nil, nil},
		{"of it, into Weak", pair(2, 14), []int{4, 14}, ops(put(4, 0, 20)), []int{grey, grey, white, white}, nil, nil, nil},
		{"into it, of it", pair(0, 14), []int{4}, ops(put(20, 0, 20)), left, nil, nil, nil},
		{"where there are no roots", pair(0, 14), nil, ops(put(4, 0, 1)), []int{white, white, white, white}, []int{4, 14, 20, 28}, nil, nil},
		{"where roots are numbers and nil", pair(0, 14), []int{5, 0}, ops(put(4, 0, 1)), []int{white, white, white, white}, []int{4, 14, 20, 28}, nil, nil},
		{"of it, behind scans", pair(0, 14), []int{4}, ops(scan(), scan(), put(4, 0, 20)), []int{black, black, white, white}, []int{20, 28}, nil, nil},
		{
			"Weak does not reach", joined(front(), []int{0, 1, 6, 12}, []int{0, 2, 4, 3}), []int{4},
			ops(put(12, 0, 5), put(4, 0, 12)), []int{grey, white}, nil, nil, nil,
		},
		{
			"Bytes do not reach", joined(front(), []int{0, 1, 5, 12}, []int{0, 2, 4, 3}), []int{4},
			ops(put(12, 0, 5)), []int{grey, white}, nil, nil, nil,
		},
		{
			"a class is reached", joined(front(), []int{12, 1, 4, 3}, []int{0, 2, 4, 3}), []int{4},
			ops(put(12, 0, 4), put(4, 0, 12)), []int{grey, white}, nil,
			joined(front(), []int{12, 1, 4, 12}, []int{0, 2, 4, 4}), nil,
		},
		{
			"far away is reached", joined(front(), []int{0, 1, 4, 3}, []int{0, 2, 4, 4}, []int{12, 3, 0}), []int{20},
			ops(put(4, 0, 20)), []int{white, white, grey}, nil,
			joined(front(), []int{0, 1, 4, 20}, []int{0, 2, 4, 4}, []int{12, 3, 0}), nil,
		},
		{
			"a class of Bytes and of Weak is reached", joined(front(), []int{12, 1, 5, 3}, []int{20, 2, 6, 3}, []int{0, 3, 4, 9}), []int{4},
			ops(put(20, 0, 11), put(12, 0, 20)), []int{grey, white, white}, nil,
			joined(front(), []int{12, 1, 5, 3}, []int{20, 2, 6, 20}, []int{0, 3, 4, 11}), nil,
		},
	} {
		c.hold(t)
	}
}

func TestPutIntoBytes(t *testing.T) {
	for _, c := range []told{
		{"a byte", pair(1, 3), []int{4}, ops(put(4, 0, 9)), []int{grey, white, white, white}, nil, pair(1, 9), nil},
		{"the least", pair(1, 3), []int{4}, ops(put(4, 0, 0)), []int{grey, white, white, white}, nil, pair(1, 0), nil},
		{"the most", pair(1, 3), []int{4}, ops(put(4, 0, 255)), []int{grey, white, white, white}, nil, pair(1, 255), nil},
		{"one that is no reference", pair(1, 3), []int{4}, ops(put(4, 0, 6)), []int{grey, white, white, white}, nil, pair(1, 6), nil},
		{"the reference of what is not reached", pair(1, 3), []int{4}, ops(put(4, 0, 20)), []int{grey, white, white, white}, nil, pair(1, 20), nil},
		{"over the reference of a white thing", pair(1, 14), []int{4}, ops(put(4, 0, 0)), []int{grey, white, white, white}, nil, pair(1, 0), nil},
		{"over both, behind a scan", pair(1, 14), []int{4}, ops(scan(), put(4, 0, 28), put(4, 0, 20)), []int{black, white, white, white}, []int{14, 20, 28}, pair(1, 20), nil},
	} {
		c.hold(t)
	}
}

func TestPutIntoWeak(t *testing.T) {
	for _, c := range []told{
		{"a number over a white thing that is not reached", pair(2, 14), []int{4}, ops(put(4, 0, 9)), []int{grey, white, white, white}, nil, pair(2, 9), nil},
		{"nil over a white thing that is not reached", pair(2, 14), []int{4}, ops(put(4, 0, 0), scan()), []int{black, white, white, white}, []int{14, 20, 28}, pair(2, 0), nil},
		{
			// 20 is a root, and holds 28, which is white.
			"over a white thing that is reached", pair(2, 28), []int{4, 20},
			ops(put(4, 0, 0)), []int{grey, white, grey, white}, nil, pair(2, 0), nil,
		},
		{"a white thing that is reached", pair(2, 0), []int{4, 20}, ops(put(4, 0, 28)), []int{grey, white, grey, white}, nil, pair(2, 28), nil},
		{"itself", pair(2, 0), []int{4}, ops(put(4, 0, 4)), []int{grey, white, white, white}, nil, pair(2, 4), nil},
		{"the same, which is not reached", pair(2, 14), []int{4}, ops(put(4, 0, 14)), []int{grey, white, white, white}, nil, nil, nil},
		{"a number over a number", pair(2, 1), []int{4}, ops(put(4, 0, -1)), []int{grey, white, white, white}, nil, pair(2, -1), nil},
	} {
		c.hold(t)
	}
}

// What was reached, and is not any more, can't be had back.
func TestPutOfWhatIsNotReachedAnyMore(t *testing.T) {
	// 4 holds 14, which holds 22; 28 is a root, too.
	row := func(first, second, third int) []int {
		return joined(front(), []int{0, 1, 8, first, second}, []int{0, 2, 4, third}, []int{0, 3, 0}, []int{0, 4, 4, 1})
	}
	for _, c := range []told{
		{"of it", row(14, 1, 22), []int{4, 28}, ops(put(4, 0, 0), put(4, 1, 14)), []int{grey, grey, white, grey}, nil, row(0, 1, 22), nil},
		{"of it, elsewhere", row(14, 1, 22), []int{4, 28}, ops(put(4, 0, 0), put(28, 0, 14)), []int{grey, grey, white, grey}, nil, row(0, 1, 22), nil},
		{"of what it holds", row(14, 1, 22), []int{4, 28}, ops(put(4, 0, 0), put(4, 1, 22)), []int{grey, grey, white, grey}, nil, row(0, 1, 22), nil},
		{"into it", row(14, 1, 22), []int{4, 28}, ops(put(4, 0, 0), put(14, 0, 0)), []int{grey, grey, white, grey}, nil, row(0, 1, 22), nil},
		{"it is held elsewhere first", row(14, 1, 22), []int{4, 28}, ops(put(4, 1, 14), put(4, 0, 0), put(4, 0, 22)), []int{grey, grey, white, grey}, nil, row(22, 14, 22), nil},
		{"what it holds is held first", row(14, 1, 22), []int{4, 28}, ops(put(4, 1, 22), put(4, 0, 0), put(14, 0, 0), put(4, 0, 22)), []int{grey, grey, white, grey}, nil, row(22, 22, 22), nil},
		{"it is black", row(14, 1, 22), []int{4, 28}, ops(scan(), scan(), put(4, 0, 0), put(4, 0, 14), put(14, 0, 0)), []int{black, black, grey, grey}, nil, row(0, 1, 22), nil},
		{"its root was taken away", row(14, 1, 22), []int{4, 28}, ops(root(0, 0), put(4, 0, 0), put(28, 0, 4)), []int{grey, white, white, grey}, nil, nil, []int{0, 28}},
		{"it holds itself", row(14, 1, 14), []int{4, 28}, ops(put(4, 0, 0), put(14, 0, 0)), []int{grey, grey, white, grey}, nil, row(0, 1, 14), nil},
	} {
		c.hold(t)
	}
}

// What is hidden behind a black thing, while its old holder lets it go, is
// found all the same.
func TestNothingIsHiddenBehindBlackThings(t *testing.T) {
	// 4 and 12 are roots; 12 holds 20, which holds 28.
	words := func(first, second int) []int {
		return joined(front(), []int{0, 1, 4, first}, []int{0, 2, 4, second}, []int{0, 3, 4, 28}, []int{0, 4, 0})
	}
	hide := ops(scan(), put(4, 0, 20), put(12, 0, 0))
	for _, c := range []told{
		{"it is white in a black one", words(1, 20), []int{4, 12}, hide[:2], []int{black, grey, white, white}, nil, words(20, 20), nil},
		{"it is grey where it is let go", words(1, 20), []int{4, 12}, hide, []int{black, grey, grey, white}, nil, words(20, 0), nil},
		{"and is found", words(1, 20), []int{4, 12}, slices.Concat(hide, scans(3)), []int{black, black, black, black}, nil, words(20, 0), nil},
		{
			"deeper down", words(1, 20), []int{4, 12},
			slices.Concat(ops(scan(), put(4, 0, 28), put(20, 0, 0)), scans(3)), []int{black, black, black, black}, nil,
			joined(front(), []int{0, 1, 4, 28}, []int{0, 2, 4, 20}, []int{0, 3, 4, 0}, []int{0, 4, 0}), nil,
		},
		{
			"by a root", words(1, 20), []int{4, 12},
			slices.Concat(ops(scan(), root(0, 28), root(1, 0)), scans(3)), []int{black, black, black, black}, nil,
			nil, []int{28, 0},
		},
	} {
		c.hold(t)
	}
}
