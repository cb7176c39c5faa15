package word

import (
	"math"
	"math/big"
	"testing"

	"gesso/api"
)

// The bounds stand here as plain digits, so that a slip in how the program
// works them out is seen.
const (
	leastNumber = -1073741824
	mostNumber  = 1073741823
	leastOdd    = -2147483647
	mostOdd     = 2147483647
	lastEven    = 3998
)

// edges are numbers at, just within and just beyond each bound that the
// chapter names, and the ends of what an int holds.
func edges() []int {
	out := []int{
		math.MinInt, math.MinInt + 1, math.MinInt + 2,
		math.MaxInt - 2, math.MaxInt - 1, math.MaxInt,
		math.MinInt / 2, math.MinInt/2 - 1, math.MinInt/2 + 1,
		math.MaxInt / 2, math.MaxInt/2 - 1, math.MaxInt/2 + 1,
		math.MinInt32, math.MaxInt32, math.MaxUint32,
		// About the root of Most, and odd numbers of such numbers.
		32767, 32768, 32769, -32767, -32768, -32769,
		65535, 65536, 65537, 65539, -65535, -65537, -65539,
	}
	for _, about := range []int{0, leastNumber, mostNumber, leastOdd, mostOdd, lastEven} {
		for d := -5; d <= 5; d++ {
			out = append(out, about+d)
		}
	}
	return out
}

// scattered are numbers of all lengths from a fixed rule.
func scattered(many int) []int {
	out := make([]int, 0, many)
	state := uint64(1)
	for i := range many {
		state = state*6364136223846793005 + 1442695040888963407
		out = append(out, int(state)>>(i%60))
	}
	return out
}

func numbers() []int { return append(edges(), scattered(240)...) }

// wantKind is A1, said over again by ways that the program does not take.
func wantKind(o int) int {
	odd := o%2 != 0
	switch {
	case o == 0:
		return api.KindNil
	case odd && o > leastOdd-1 && o < mostOdd+1:
		return api.KindSmall
	case !odd && o > 3 && o < lastEven+1:
		return api.KindThing
	}
	return api.KindNone
}

// wantReference is the reference of n, reckoned without bounds.
func wantReference(n *big.Int) (int, bool) {
	if n.Cmp(big.NewInt(leastNumber)) < 0 || n.Cmp(big.NewInt(mostNumber)) > 0 {
		return 0, false
	}
	two, one := big.NewInt(2), big.NewInt(1)
	return int(new(big.Int).Add(new(big.Int).Mul(n, two), one).Int64()), true
}

// wantValue is the number that o is of, reckoned without bounds.
func wantValue(o int) (*big.Int, bool) {
	if wantKind(o) != api.KindSmall {
		return nil, false
	}
	n := new(big.Int).Sub(big.NewInt(int64(o)), big.NewInt(1))
	return n.Quo(n, big.NewInt(2)), true
}

// A1: each named edge and what lies just beyond it.
func TestKindAtEdges(t *testing.T) {
	for _, c := range []struct{ o, want int }{
		{0, api.KindNil},
		{1, api.KindSmall},
		{-1, api.KindSmall},
		{7, api.KindSmall},
		{-2, api.KindNone},
		{-4, api.KindNone},
		{2, api.KindNone},
		{3, api.KindSmall},
		{4, api.KindThing},
		{5, api.KindSmall},
		{6, api.KindThing},
		{3996, api.KindThing},
		{3997, api.KindSmall},
		{3998, api.KindThing},
		{3999, api.KindSmall},
		{4000, api.KindNone},
		{4002, api.KindNone},
		{-3998, api.KindNone},
		{-2147483645, api.KindSmall},
		{-2147483647, api.KindSmall},
		{-2147483648, api.KindNone},
		{-2147483649, api.KindNone},
		{2147483645, api.KindSmall},
		{2147483646, api.KindNone},
		{2147483647, api.KindSmall},
		{2147483648, api.KindNone},
		{2147483649, api.KindNone},
		{1<<32 + 1, api.KindNone},
		{1<<32 + 4, api.KindNone},
		{math.MinInt, api.KindNone},
		{math.MinInt + 1, api.KindNone},
		{math.MaxInt - 1, api.KindNone},
		{math.MaxInt, api.KindNone},
	} {
		if got := Kind(c.o); got != c.want {
			t.Errorf("Kind(%d) = %d, want %d", c.o, got, c.want)
		}
	}
}

// A1: the given constants are the ones that the kinds are told by.
func TestKindsAreTheGivenOnes(t *testing.T) {
	if Kind(2*api.Least+1) != api.KindSmall || Kind(2*api.Most+1) != api.KindSmall {
		t.Error("2 Least + 1 and 2 Most + 1 are small")
	}
	if Kind(2*(api.MaxWords-1)) != api.KindThing || Kind(2*api.MaxWords) != api.KindNone {
		t.Error("2 (MaxWords - 1) is the last one of a thing")
	}
}

// A1: all numbers about 0, and numbers of all lengths.
func TestKindEverywhere(t *testing.T) {
	for o := -9000; o <= 9000; o++ {
		if got := Kind(o); got != wantKind(o) {
			t.Errorf("Kind(%d) = %d, want %d", o, got, wantKind(o))
		}
	}
	for _, o := range numbers() {
		if got := Kind(o); got != wantKind(o) {
			t.Errorf("Kind(%d) = %d, want %d", o, got, wantKind(o))
		}
	}
}

// A2: each named edge of Small and what lies just beyond it.
func TestSmallAtEdges(t *testing.T) {
	for _, c := range []struct {
		n, want int
		ok      bool
	}{
		{0, 1, true},
		{3, 7, true},
		{1, 3, true},
		{-1, -1, true},
		{-2, -3, true},
		{1073741822, 2147483645, true},
		{1073741823, 2147483647, true},
		{1073741824, 0, false},
		{1073741825, 0, false},
		{-1073741823, -2147483645, true},
		{-1073741824, -2147483647, true},
		{-1073741825, 0, false},
		{-1073741826, 0, false},
		{1 << 32, 0, false},
		{1 << 62, 0, false},
		{math.MinInt, 0, false},
		{math.MaxInt, 0, false},
	} {
		if got, ok := Small(c.n); got != c.want || ok != c.ok {
			t.Errorf("Small(%d) = %d, %v, want %d, %v", c.n, got, ok, c.want, c.ok)
		}
	}
}

// A2: each named edge of Value, what lies just beyond it, and references
// that are not small.
func TestValueAtEdges(t *testing.T) {
	for _, c := range []struct {
		o, want int
		ok      bool
	}{
		{1, 0, true},
		{7, 3, true},
		{3, 1, true},
		{-1, -1, true},
		{-3, -2, true},
		{-5, -3, true},
		{0, 0, false},
		{2, 0, false},
		{4, 0, false},
		{3998, 0, false},
		{3999, 1999, true},
		{4000, 0, false},
		{-2, 0, false},
		{2147483647, 1073741823, true},
		{2147483648, 0, false},
		{2147483649, 0, false},
		{-2147483647, -1073741824, true},
		{-2147483648, 0, false},
		{-2147483649, 0, false},
		{math.MinInt, 0, false},
		{math.MinInt + 1, 0, false},
		{math.MaxInt, 0, false},
	} {
		if got, ok := Value(c.o); got != c.want || ok != c.ok {
			t.Errorf("Value(%d) = %d, %v, want %d, %v", c.o, got, ok, c.want, c.ok)
		}
	}
}

// A2: Small and Value everywhere, and each undoes the other.
func TestSmallAndValueEverywhere(t *testing.T) {
	for _, n := range numbers() {
		want, wantOK := wantReference(big.NewInt(int64(n)))
		o, ok := Small(n)
		if o != want || ok != wantOK {
			t.Errorf("Small(%d) = %d, %v, want %d, %v", n, o, ok, want, wantOK)
		}
		if !ok {
			continue
		}
		if back, isSmall := Value(o); back != n || !isSmall || Kind(o) != api.KindSmall {
			t.Errorf("Value(Small(%d)) = %d, %v", n, back, isSmall)
		}
	}
	for _, o := range numbers() {
		n, ok := Value(o)
		if ok != (wantKind(o) == api.KindSmall) || !ok && n != 0 {
			t.Errorf("Value(%d) = %d, %v", o, n, ok)
		}
		if back, isSmall := Small(n); ok && (back != o || !isSmall) {
			t.Errorf("Small(Value(%d)) = %d, %v", o, back, isSmall)
		}
	}
}

type reckoning func(a, b int) (int, bool)

type reckoned struct {
	name string
	call reckoning
	want func(x, y *big.Int) *big.Int
}

func reckonings() []reckoned {
	return []reckoned{
		{"Add", Add, func(x, y *big.Int) *big.Int { return new(big.Int).Add(x, y) }},
		{"Sub", Sub, func(x, y *big.Int) *big.Int { return new(big.Int).Sub(x, y) }},
		{"Mul", Mul, func(x, y *big.Int) *big.Int { return new(big.Int).Mul(x, y) }},
	}
}

type reckonCase struct {
	name string
	call reckoning
	a, b int
	want int
	ok   bool
}

func checkReckoning(t *testing.T, cases []reckonCase) {
	t.Helper()
	for _, c := range cases {
		if got, ok := c.call(c.a, c.b); got != c.want || ok != c.ok {
			t.Errorf("%s(%d, %d) = %d, %v, want %d, %v", c.name, c.a, c.b, got, ok, c.want, c.ok)
		}
	}
}

// A3: ordinary pairs, and pairs whose outcome is at an edge or just beyond.
func TestReckoningOfSmallOnes(t *testing.T) {
	checkReckoning(t, []reckonCase{
		{"Add", Add, 7, 1, 7, true},
		{"Add", Add, 7, -1, 5, true},
		{"Add", Add, 7, 5, 11, true},
		{"Add", Add, 2147483645, 3, 2147483647, true},
		{"Add", Add, 2147483647, 3, 0, false},
		{"Add", Add, 2147483647, 2147483647, 0, false},
		{"Add", Add, -2147483645, -1, -2147483647, true},
		{"Add", Add, -2147483647, -1, 0, false},
		{"Add", Add, -2147483647, -2147483647, 0, false},
		{"Add", Add, -2147483647, 2147483647, -1, true},
		{"Sub", Sub, 7, 5, 3, true},
		{"Sub", Sub, 5, 7, -1, true},
		{"Sub", Sub, 7, 7, 1, true},
		{"Sub", Sub, 1, 2147483647, -2147483645, true},
		{"Sub", Sub, -1, 2147483647, -2147483647, true},
		{"Sub", Sub, -3, 2147483647, 0, false},
		{"Sub", Sub, 1, -2147483647, 0, false},
		{"Sub", Sub, -1, -2147483647, 2147483647, true},
		{"Mul", Mul, 7, 5, 13, true},
		{"Mul", Mul, 7, -5, -17, true},
		{"Mul", Mul, -5, -5, 19, true},
		{"Mul", Mul, 2147483647, 1, 1, true},
		{"Mul", Mul, 2147483647, 3, 2147483647, true},
		{"Mul", Mul, 2147483647, -1, -2147483645, true},
		{"Mul", Mul, -2147483647, -1, 0, false},
		{"Mul", Mul, -2147483647, 3, -2147483647, true},
		{"Mul", Mul, 2147483647, 2147483647, 0, false},
		{"Mul", Mul, -2147483647, -2147483647, 0, false},
		{"Mul", Mul, -2147483647, 2147483647, 0, false},
		{"Mul", Mul, 65537, 65537, 0, false},             // 2^15 times 2^15 is 2^30
		{"Mul", Mul, 65537, -65535, -2147483647, true},   // and -2^30 has one
		{"Mul", Mul, 65535, 65539, 2147483647, true},     // 32767 times 32769 is 2^30 - 1
		{"Mul", Mul, 2*65536 + 1, 2*65536 + 1, 0, false}, // 2^32 is 0 in 32 bits
	})
}

// A3: pairs of which one or both are not small.
func TestReckoningOfOthers(t *testing.T) {
	checkReckoning(t, []reckonCase{
		{"Add", Add, 0, 7, 0, false},
		{"Add", Add, 7, 0, 0, false},
		{"Add", Add, 4, 4, 0, false},
		{"Sub", Sub, 7, 2, 0, false},
		{"Sub", Sub, 3998, 7, 0, false},
		{"Mul", Mul, 0, 1, 0, false},
		{"Mul", Mul, 1, 0, 0, false},
		{"Mul", Mul, 1, 2147483649, 0, false},
		{"Add", Add, -2147483649, 2147483647, 0, false},
		{"Sub", Sub, 2147483649, 3, 0, false},
		{"Mul", Mul, math.MinInt, -1, 0, false},
		{"Add", Add, math.MaxInt, math.MaxInt, 0, false},
		{"Sub", Sub, math.MinInt + 1, math.MaxInt, 0, false},
	})
}

// A3: each pair of numbers, small or not.
func TestReckoningEverywhere(t *testing.T) {
	all := numbers()
	for _, r := range reckonings() {
		for _, a := range all {
			for _, b := range all {
				want, wantOK := 0, false
				x, xOK := wantValue(a)
				y, yOK := wantValue(b)
				if xOK && yOK {
					want, wantOK = wantReference(r.want(x, y))
				}
				if got, ok := r.call(a, b); got != want || ok != wantOK {
					t.Errorf("%s(%d, %d) = %d, %v, want %d, %v", r.name, a, b, got, ok, want, wantOK)
				}
			}
		}
	}
}

// A3: ordinary pairs, equal ones, the edges, and pairs of which one or both
// are not small.
func TestLessAtEdges(t *testing.T) {
	for _, c := range []struct {
		a, b       int
		below, all bool
	}{
		{5, 7, true, true},
		{7, 5, false, true},
		{7, 7, false, true},
		{-1, 1, true, true},
		{1, -1, false, true},
		{-3, -1, true, true},
		{-2147483647, 2147483647, true, true},
		{2147483647, -2147483647, false, true},
		{-2147483647, -2147483647, false, true},
		{2147483645, 2147483647, true, true},
		{-2147483647, -2147483645, true, true},
		{0, 7, false, false},
		{-7, 0, false, false},
		{4, 7, false, false},
		{3, 4, false, false},
		{0, 4, false, false},
		{-2147483649, 1, false, false},
		{1, 2147483649, false, false},
		{math.MinInt, math.MaxInt, false, false},
		{math.MinInt + 1, 1, false, false},
	} {
		if below, ok := Less(c.a, c.b); below != c.below || ok != c.all {
			t.Errorf("Less(%d, %d) = %v, %v, want %v, %v", c.a, c.b, below, ok, c.below, c.all)
		}
	}
}

// A3: each pair of numbers, small or not.
func TestLessEverywhere(t *testing.T) {
	all := numbers()
	for _, a := range all {
		for _, b := range all {
			x, xOK := wantValue(a)
			y, yOK := wantValue(b)
			both := xOK && yOK
			want := both && x.Cmp(y) < 0
			if below, ok := Less(a, b); below != want || ok != both {
				t.Errorf("Less(%d, %d) = %v, %v, want %v, %v", a, b, below, ok, want, both)
			}
		}
	}
}
