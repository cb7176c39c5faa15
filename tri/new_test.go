package tri

import (
	"math"
	"slices"
	"testing"

	"gesso/api"
)

// one is a heap of one thing, with that next hash and one slot; two has such a
// thing and one of no slots behind it.
func one(next, slot int) []int { return []int{0, next, 0, 1, 4, slot} }
func two(next, slot int) []int { return append(one(next, slot), 0, 2, 0) }

func TestNew(t *testing.T) {
	for _, c := range []told{
		{"Plain", one(2, 7), []int{4}, ops(anew(0, 1)), []int{grey, black}, nil, append(one(3, 7), 0, 2, 4, 0), []int{4, 12}},
		{"Bytes", one(2, 7), []int{4}, ops(anew(1, 2)), []int{grey, black}, nil, append(one(3, 7), 0, 2, 9, 0, 0), []int{4, 12}},
		{"Weak", one(2, 7), []int{4}, ops(anew(2, 1)), []int{grey, black}, nil, append(one(3, 7), 0, 2, 6, 0), []int{4, 12}},
		{"no slots", one(2, 7), []int{4}, ops(anew(0, 0)), []int{grey, black}, nil, append(one(3, 7), 0, 2, 0), []int{4, 12}},
		{"several", one(2, 7), []int{4}, ops(anew(1, 0), anew(0, 1), anew(2, 0)), []int{grey, black, black, black}, nil, append(one(5, 7), 0, 2, 1, 0, 3, 4, 0, 0, 4, 2), []int{4, 12, 18, 26}},
		{"no things", []int{0, 1}, nil, ops(anew(0, 1)), []int{black}, nil, []int{0, 2, 0, 1, 4, 0}, []int{4}},
		{"no roots", one(2, 7), nil, ops(anew(0, 0)), []int{white, black}, []int{4}, append(one(3, 7), 0, 2, 0), []int{12}},
		{"numbers and nil as roots", one(2, 7), []int{3, 0}, ops(anew(0, 0)), []int{white, black}, []int{4}, append(one(3, 7), 0, 2, 0), []int{3, 0, 12}},
		{"the next hash is far ahead", one(77, 7), []int{4}, ops(anew(0, 0)), []int{grey, black}, nil, append(one(78, 7), 0, 77, 0), []int{4, 12}},
		{"scans look at others", one(2, 7), []int{4}, ops(anew(0, 0), scan(), scan()), []int{black, black}, nil, append(one(3, 7), 0, 2, 0), []int{4, 12}},
	} {
		c.hold(t)
	}
	most := append(one(3, 7), 0, 2, 4*maxSize)
	told{
		"the most slots", one(2, 7), []int{4}, ops(anew(0, maxSize)), []int{grey, black}, nil,
		append(most, make([]int, maxSize)...), []int{4, 12},
	}.hold(t)
}

func TestNewThatIsRefused(t *testing.T) {
	refused := func(op api.Op) {
		t.Helper()
		told{"refused", one(2, 7), []int{4}, ops(op), []int{grey}, nil, nil, nil}.hold(t)
		told{"refused between others", one(2, 7), []int{4}, ops(op, anew(0, 0), op, scan()), []int{black, black}, nil, append(one(3, 7), 0, 2, 0), []int{4, 12}}.hold(t)
	}
	for _, form := range []int{-1, 3, 4, 5, 6, 256, math.MinInt, math.MaxInt, 1 << 32} {
		refused(anew(form, 0))
	}
	for _, size := range []int{-1, -2, maxSize + 1, maxWords, math.MinInt, math.MaxInt, 1 << 32, 1 << 62} {
		for form := range 3 {
			refused(anew(form, size))
		}
	}
	told{"no hash is left", one(maxHash+1, 7), []int{4}, ops(anew(0, 0), scan()), []int{black}, nil, nil, nil}.hold(t)
	told{
		"one hash is left", one(maxHash, 7), []int{4}, ops(anew(0, 0), anew(0, 0)), []int{grey, black}, nil,
		append(one(maxHash+1, 7), 0, maxHash, 0), []int{4, 12},
	}.hold(t)
}

// bytesUpTo answers a heap of things of Bytes alone, and of so many words.
func bytesUpTo(words int) []int {
	out := []int{0, 1}
	for len(out) < words {
		size := min(maxSize, words-len(out)-3)
		// What is left must not be too little for one thing more.
		if left := words - len(out) - 3 - size; left > 0 && left < 3 {
			size -= 3
		}
		out = append(out, 0, out[1], 4*size+1)
		out = append(out, make([]int, size)...)
		out[1]++
	}
	return out
}

func TestNewWhereTheHeapIsFull(t *testing.T) {
	for _, c := range []struct{ left, size, many int }{
		{0, 0, 0}, {1, 0, 0}, {2, 0, 0}, {3, 0, 1}, {3, 1, 0}, {4, 1, 1}, {5, 0, 1}, {6, 0, 2},
		{62, 60, 0}, {63, 60, 1}, {64, 60, 1}, {125, 60, 1}, {126, 60, 2},
	} {
		h := api.Heap{Words: bytesUpTo(maxWords - c.left)}
		if len(h.Words) != maxWords-c.left {
			t.Fatal(c, len(h.Words))
		}
		all := slices.Repeat(ops(anew(0, c.size)), 4)
		p, f := Play(h, []int{4}, all)
		things := h.Words[1] - 1
		if f != fine || len(p.Roots) != 1+c.many || len(p.Colours) != things+c.many || len(p.H.Words) != len(h.Words)+c.many*(3+c.size) {
			t.Error(c, len(p.Roots), len(p.Colours), len(p.H.Words), f)
		}
		holdS3(t, "full", h, []int{4}, all)
	}
	full := bytesUpTo(maxWords)
	colours := make([]int, full[1]-1)
	colours[0] = grey
	told{"a full heap", full, []int{4}, ops(anew(0, 0), put(4, 0, 0), anew(1, 0)), colours, nil, nil, nil}.hold(t)
}

func TestPutWithNewThings(t *testing.T) {
	// 4 holds 12; the new thing is 18.
	anew1 := func(form int) api.Op { return anew(form, 1) }
	end := func(slot, form, what int) []int { return append(two(4, slot), 0, 3, 4+form, what) }
	for _, c := range []told{
		{"a white thing into it", two(3, 12), []int{4}, ops(anew1(0), put(18, 0, 12)), []int{grey, white, black}, nil, end(12, 0, 12), []int{4, 18}},
		{
			"which is let go elsewhere then", two(3, 12), []int{4},
			ops(anew1(0), put(18, 0, 12), put(4, 0, 0)), []int{grey, grey, black}, nil, end(0, 0, 12), []int{4, 18},
		},
		{
			"and is found at the end", two(3, 12), []int{4},
			ops(anew1(0), put(18, 0, 12), put(4, 0, 0), scan(), scan()), []int{black, black, black}, nil, end(0, 0, 12), []int{4, 18},
		},
		{"a root into it", two(3, 12), []int{4}, ops(anew1(0), put(18, 0, 4)), []int{grey, white, black}, nil, end(12, 0, 4), []int{4, 18}},
		{"itself", two(3, 12), []int{4}, ops(anew1(0), put(18, 0, 18)), []int{grey, white, black}, nil, end(12, 0, 18), []int{4, 18}},
		{"a number", two(3, 12), []int{4}, ops(anew1(0), put(18, 0, 3)), []int{grey, white, black}, nil, end(12, 0, 3), []int{4, 18}},
		{"it into another one", two(3, 12), []int{4}, ops(anew1(0), put(4, 0, 18)), []int{grey, grey, black}, nil, end(18, 0, 0), []int{4, 18}},
		{"over it", two(3, 1), []int{4}, ops(anew1(0), put(4, 0, 18), put(4, 0, 0)), []int{grey, white, black}, nil, end(0, 0, 0), []int{4, 18}},
		{"over a white thing in it", two(3, 12), []int{4}, ops(anew1(0), put(18, 0, 12), put(18, 0, 0)), []int{grey, grey, black}, nil, end(12, 0, 0), []int{4, 18}},
		{"what is not reached", two(3, 1), []int{4}, ops(anew1(0), put(18, 0, 12)), []int{grey, white, black}, nil, end(1, 0, 0), []int{4, 18}},
		{"a byte", two(3, 12), []int{4}, ops(anew1(1), put(18, 0, 12)), []int{grey, white, black}, nil, end(12, 1, 12), []int{4, 18}},
		{"weakly", two(3, 12), []int{4}, ops(anew1(2), put(18, 0, 12)), []int{grey, white, black}, nil, end(12, 2, 12), []int{4, 18}},
		{"weakly, and nil over it", two(3, 12), []int{4}, ops(anew1(2), put(18, 0, 12), put(18, 0, 0)), []int{grey, white, black}, nil, end(12, 2, 0), []int{4, 18}},
		{"before it is there", two(3, 12), []int{4}, ops(put(18, 0, 4), put(4, 0, 18), anew1(0)), []int{grey, white, black}, nil, end(12, 0, 0), []int{4, 18}},
	} {
		c.hold(t)
	}
}

func TestRoot(t *testing.T) {
	// 4 holds 12.
	for _, c := range []told{
		{"a number", two(3, 12), []int{4}, ops(root(0, 9)), []int{grey, white}, nil, nil, []int{9}},
		{"the least number", two(3, 12), []int{4}, ops(root(0, leastOdd)), []int{grey, white}, nil, nil, []int{leastOdd}},
		{"the greatest number", two(3, 12), []int{4}, ops(root(0, mostOdd)), []int{grey, white}, nil, nil, []int{mostOdd}},
		{"nil", two(3, 12), []int{4}, ops(root(0, 0)), []int{grey, white}, nil, nil, []int{0}},
		{"the same", two(3, 12), []int{4}, ops(root(0, 4)), []int{grey, white}, nil, nil, []int{4}},
		{"what it holds", two(3, 12), []int{4}, ops(root(0, 12)), []int{grey, white}, nil, nil, []int{12}},
		{"over a number", two(3, 12), []int{4, 13}, ops(root(1, 12)), []int{grey, white}, nil, nil, []int{4, 12}},
		{"over nil", two(3, 12), []int{0, 4}, ops(root(0, 12)), []int{grey, white}, nil, nil, []int{12, 4}},
		{"over a white thing", two(3, 12), []int{4}, ops(root(0, 12), root(0, 0)), []int{grey, grey}, nil, nil, []int{0}},
		{"the same over a white thing", two(3, 12), []int{4}, ops(root(0, 12), root(0, 12)), []int{grey, grey}, nil, nil, []int{12}},
		{"over a black thing", two(3, 12), []int{4}, ops(scan(), root(0, 12)), []int{black, grey}, nil, nil, []int{12}},
		{"over a grey thing, behind a scan", two(3, 12), []int{4, 12}, ops(scan(), root(1, 5)), []int{black, grey}, nil, nil, []int{4, 5}},
		{"the last one", two(3, 12), []int{4, 4, 4}, ops(root(2, 7)), []int{grey, white}, nil, nil, []int{4, 4, 7}},
		{"one between", two(3, 12), []int{4, 4, 4}, ops(root(1, 7)), []int{grey, white}, nil, nil, []int{4, 7, 4}},
		{"of a white thing, which is let go elsewhere", two(3, 12), []int{4}, ops(root(0, 12), scan(), scan()), []int{black, black}, nil, nil, []int{12}},
	} {
		c.hold(t)
	}
}

func TestRootThatMayNotBe(t *testing.T) {
	for _, at := range []int{-1, -2, 2, 3, math.MinInt, math.MaxInt, 1 << 32} {
		for _, what := range []int{0, 9, 4, 12} {
			told{"no such root", two(3, 12), []int{4, 12}, ops(root(at, what)), []int{grey, grey}, nil, nil, nil}.hold(t)
		}
	}
	for _, at := range []int{-1, 0, 1} {
		told{"no roots", two(3, 12), nil, ops(root(at, 0), root(at, 5)), []int{white, white}, []int{4, 12}, nil, nil}.hold(t)
	}
	for _, what := range []int{2, 6, 8, 10, 14, 16, 18, -2, -4, 3998, 4000, leastOdd - 2, leastOdd - 1, mostOdd + 1, mostOdd + 2, math.MinInt, math.MaxInt} {
		// The root is white: it would be grey if it were changed.
		told{"no reference", two(3, 12), []int{4}, ops(root(0, 12), root(0, what)), []int{grey, white}, nil, nil, []int{12}}.hold(t)
	}
	for _, c := range []told{
		{"what is not reached", two(3, 1), []int{4, 5}, ops(root(0, 12), root(1, 12)), []int{grey, white}, nil, nil, nil},
		{"from roots that are numbers", two(3, 12), []int{5, 0}, ops(root(0, 4), root(1, 12)), []int{white, white}, []int{4, 12}, nil, nil},
		{"what is not reached any more", two(3, 12), []int{4}, ops(root(0, 0), root(0, 4)), []int{grey, white}, nil, nil, []int{0}},
		{"whom nobody holds any more", two(3, 12), []int{4, 1}, ops(put(4, 0, 0), root(1, 12)), []int{grey, grey}, nil, two(3, 0), nil},
		{"a black one that is not reached any more", two(3, 12), []int{4, 1}, ops(scan(), scan(), root(0, 0), root(1, 4), root(1, 12)), []int{black, black}, nil, nil, []int{0, 1}},
		{"what Weak holds", []int{0, 3, 0, 1, 6, 12, 0, 2, 0}, []int{4, 1}, ops(root(1, 12)), []int{grey, white}, nil, nil, nil},
		{"what Bytes have", []int{0, 3, 0, 1, 5, 12, 0, 2, 0}, []int{4, 1}, ops(root(1, 12)), []int{grey, white}, nil, nil, nil},
		{"a class may be one", []int{0, 3, 12, 1, 5, 12, 0, 2, 0}, []int{4, 1}, ops(root(1, 12)), []int{grey, white}, nil, nil, []int{4, 12}},
	} {
		c.hold(t)
	}
}

func TestRootThatOpNewHasMade(t *testing.T) {
	after := append(two(4, 12), 0, 3, 4, 0)
	holds := append(two(4, 12), 0, 3, 4, 12)
	for _, c := range []told{
		{"nil", two(3, 12), []int{4}, ops(anew(0, 1), root(1, 0)), []int{grey, white, black}, nil, after, []int{4, 0}},
		{"another one", two(3, 12), []int{4}, ops(anew(0, 1), root(1, 12)), []int{grey, white, black}, nil, after, []int{4, 12}},
		{"it takes another one's place", two(3, 12), []int{4}, ops(anew(0, 1), root(0, 18)), []int{grey, white, black}, nil, after, []int{18, 18}},
		{"it is not reached any more", two(3, 12), []int{4}, ops(anew(0, 1), root(1, 0), root(1, 18), put(18, 0, 12)), []int{grey, white, black}, nil, after, []int{4, 0}},
		{"it is kept this time all the same", two(3, 12), []int{4}, ops(anew(0, 1), root(1, 0), scan(), scan()), []int{black, black, black}, nil, after, []int{4, 0}},
		{"what it holds is white, and is held by a root", two(3, 12), []int{4}, ops(anew(0, 1), put(18, 0, 12), root(1, 7)), []int{grey, white, black}, nil, holds, []int{4, 7}},
		{"there is none yet", two(3, 12), []int{4}, ops(root(1, 0), anew(0, 1)), []int{grey, white, black}, nil, after, []int{4, 18}},
		{"one behind it", two(3, 12), []int{4}, ops(anew(0, 1), root(2, 0)), []int{grey, white, black}, nil, after, []int{4, 18}},
		{"the first one of all", []int{0, 1}, nil, ops(anew(0, 0), root(0, 5)), []int{black}, nil, []int{0, 2, 0, 1, 0}, []int{5}},
	} {
		c.hold(t)
	}
}
