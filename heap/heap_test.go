package heap

import (
	"math"
	"slices"
	"testing"

	"gesso/api"
)

// The limits stand here as plain digits, so that a slip in how the program
// works them out is seen.
const (
	maxWords = 2000
	maxSize  = 60
	maxHash  = 10000
	mostOdd  = 2147483647
	leastOdd = -2147483647
)

func heapOf(words ...int) api.Heap { return api.Heap{Words: words} }

func fault(code api.Errno, at int) api.Fault { return api.Fault{Code: code, At: at} }

// three is a heap of three things: a Plain one of two slots at 2 (its class
// is the last thing), a Bytes one of three at 7, a Weak one of one at 13.
func three() []int {
	return []int{0, 9, 26, 8, 8, 14, mostOdd, 0, 1, 13, 0, 200, 255, 4, 5, 6, 4}
}

const (
	plainRef = 4
	bytesRef = 14
	weakRef  = 26
)

// full is a heap of that many words, of things of no slots and a last one
// that takes the rest.
func full(words int) []int {
	out := []int{0, 1}
	for len(out)+3 <= words {
		left := words - len(out)
		size := 0
		if left < 6 {
			size = left - 3
		}
		out = append(out, 0, out[1], size*4)
		out = append(out, make([]int, size)...)
		out[1]++
	}
	return out
}

// with answers the words with the one at that place replaced.
func with(words []int, at, what int) []int {
	out := slices.Clone(words)
	out[at] = what
	return out
}

// numbers are edges of all that a word may be, and the ends of int.
func numbers() []int {
	out := []int{
		math.MinInt, math.MinInt + 1, math.MinInt + 2, math.MaxInt - 2, math.MaxInt - 1, math.MaxInt,
		math.MinInt / 2, math.MaxInt / 2, math.MinInt / 4, math.MaxInt / 4, 1 << 40, -1 << 40,
		leastOdd - 2, leastOdd - 1, leastOdd, leastOdd + 1, mostOdd - 1, mostOdd, mostOdd + 1, mostOdd + 2,
		253, 254, 255, 256, 257, 3990, 3994, 3996, 3998, 4000, 9999, 10000, 10001, 10002, 10003,
		4*maxSize - 1, 4 * maxSize, 4*maxSize + 1, 4*maxSize + 2, 4*maxSize + 3, 4*maxSize + 4, 1996, 1999, 2000, 2001,
	}
	for n := -9; n <= 40; n++ {
		out = append(out, n)
	}
	return out
}

// dice are numbers from a fixed rule.
type dice uint64

func (d *dice) below(n int) int {
	*d = *d*6364136223846793005 + 1442695040888963407
	return int(uint64(*d)>>33) % n
}

// wantFront is the beginning of B2, said over again by ways that the program
// does not take; -1 where there is no fault.
func wantFront(w []int) (api.Errno, int) {
	if !(len(w) >= 2) || !(len(w) <= 2000) {
		return api.ErrSize, 0
	}
	if w[0] != 0 {
		return api.ErrForm, 0
	}
	if !(w[1] >= 1 && w[1] <= 10001) {
		return api.ErrForm, 1
	}
	return api.OK, -1
}

// wantPlaces are the places of things, and the first that does not fit or -1.
func wantPlaces(w []int) ([]int, int) {
	var places []int
	at := 2
	for at != len(w) {
		if at+3 > len(w) {
			return nil, at
		}
		shape := w[at+2]
		if shape < 0 || shape > 4*60+2 || shape%4 == 3 || at+3+shape/4 > len(w) {
			return nil, at
		}
		places = append(places, at)
		at += 3 + shape/4
	}
	return places, -1
}

func isThing(places []int, o int) bool {
	return slices.ContainsFunc(places, func(p int) bool { return o == p+p })
}

func isSmallOdd(o int) bool { return o%2 != 0 && o >= leastOdd && o <= mostOdd }

func wantCheck(w []int) api.Fault {
	if code, at := wantFront(w); at >= 0 {
		return fault(code, at)
	}
	places, wrong := wantPlaces(w)
	if wrong >= 0 {
		return fault(api.ErrForm, wrong)
	}
	for i, p := range places {
		if w[p] != 0 && !isThing(places, w[p]) {
			return fault(api.ErrKind, p)
		}
		if w[p+1] < 1 || w[p+1] > w[1]-1 {
			return fault(api.ErrTwice, p)
		}
		for _, q := range places[:i] {
			if w[q+1] == w[p+1] {
				return fault(api.ErrTwice, p)
			}
		}
		for at := p + 3; at < p+3+w[p+2]/4; at++ {
			o := w[at]
			if w[p+2]%4 == api.Bytes && !(o >= 0 && o < 256) {
				return fault(api.ErrKind, at)
			}
			if w[p+2]%4 != api.Bytes && o != 0 && !isSmallOdd(o) && !isThing(places, o) {
				return fault(api.ErrKind, at)
			}
		}
	}
	return api.Fault{}
}

func TestCheckOfHeapsThatMayBe(t *testing.T) {
	sized := append([]int{0, 2, 0, 1, maxSize * 4}, make([]int, maxSize)...)
	may := map[string][]int{
		"no thing":                {0, 1},
		"next hash at its most":   {0, maxHash + 1},
		"the highest hash":        {0, maxHash + 1, 0, maxHash, 0},
		"three":                   three(),
		"its own class and slot":  {0, 2, 4, 1, 4, 4},
		"no slots":                {0, 2, 0, 1, 0},
		"no slots of Bytes":       {0, 2, 0, 1, 1},
		"no slots of Weak":        {0, 2, 0, 1, 2},
		"most slots":              sized,
		"most words":              full(maxWords),
		"hashes in any order":     {0, 10, 0, 9, 0, 0, 2, 0, 0, 5, 0},
		"small ones at the ends":  {0, 2, 0, 1, 12, leastOdd, mostOdd, 1},
		"weak small ones":         {0, 2, 0, 1, 14, leastOdd, mostOdd, 0},
		"bytes at the ends":       {0, 2, 0, 1, 9, 0, 255},
		"a class that comes last": {0, 3, 10, 1, 0, 0, 2, 0},
	}
	for name, w := range may {
		if f := Check(api.Heap{Words: w}); f != (api.Fault{}) {
			t.Error(name, f)
		}
	}
}

func TestCheckOfHeapsThatMayNotBe(t *testing.T) {
	tooSized := append([]int{0, 2, 0, 1, (maxSize + 1) * 4}, make([]int, maxSize+1)...)
	cases := []struct {
		name  string
		words []int
		want  api.Fault
	}{
		{"nothing", nil, fault(api.ErrSize, 0)},
		{"empty", []int{}, fault(api.ErrSize, 0)},
		{"one word", []int{0}, fault(api.ErrSize, 0)},
		{"one word too many", full(maxWords + 1), fault(api.ErrSize, 0)},
		{"too many ahead of all else", make([]int, maxWords+1), fault(api.ErrSize, 0)},
		{"word 0", []int{1, 1}, fault(api.ErrForm, 0)},
		{"word 0 ahead of word 1", []int{-1, 0}, fault(api.ErrForm, 0)},
		{"next hash 0", []int{0, 0}, fault(api.ErrForm, 1)},
		{"next hash below 0", []int{0, -1}, fault(api.ErrForm, 1)},
		{"next hash beyond", []int{0, maxHash + 2}, fault(api.ErrForm, 1)},
		{"word 1 ahead of things", []int{0, 0, 0}, fault(api.ErrForm, 1)},
		{"one word left", []int{0, 2, 0}, fault(api.ErrForm, 2)},
		{"two words left", []int{0, 2, 0, 1}, fault(api.ErrForm, 2)},
		{"words left behind a thing", []int{0, 2, 0, 1, 0, 0, 0}, fault(api.ErrForm, 5)},
		{"form 3", []int{0, 2, 0, 1, 3}, fault(api.ErrForm, 2)},
		{"size below 0", []int{0, 2, 0, 1, -4}, fault(api.ErrForm, 2)},
		{"size and form below 0", []int{0, 2, 0, 1, -1}, fault(api.ErrForm, 2)},
		{"size beyond", tooSized, fault(api.ErrForm, 2)},
		{"size beyond what is left", []int{0, 2, 0, 1, 8, 0}, fault(api.ErrForm, 2)},
		{"size that would wrap round", []int{0, 2, 0, 1, math.MaxInt - 3, 0}, fault(api.ErrForm, 2)},
		{"a later form ahead of an earlier class", []int{0, 2, 1, 1, 0, 0, 1, 3}, fault(api.ErrForm, 5)},
		{"class small", []int{0, 2, 1, 1, 0}, fault(api.ErrKind, 2)},
		{"class no thing's", []int{0, 2, 6, 1, 0}, fault(api.ErrKind, 2)},
		{"class word 1", []int{0, 2, 2, 1, 0}, fault(api.ErrKind, 2)},
		{"class behind the end", []int{0, 2, 10, 1, 0}, fault(api.ErrKind, 2)},
		{"class below 0", []int{0, 2, -4, 1, 0}, fault(api.ErrKind, 2)},
		{"class of a slot", []int{0, 2, 10, 1, 4, 0}, fault(api.ErrKind, 2)},
		{"class ahead of hash", []int{0, 2, 1, 0, 0}, fault(api.ErrKind, 2)},
		{"hash 0", []int{0, 2, 0, 0, 0}, fault(api.ErrTwice, 2)},
		{"hash below 0", []int{0, 2, 0, -1, 0}, fault(api.ErrTwice, 2)},
		{"hash not below the next", []int{0, 2, 0, 2, 0}, fault(api.ErrTwice, 2)},
		{"hash twice", []int{0, 3, 0, 1, 0, 0, 1, 0}, fault(api.ErrTwice, 5)},
		{"hash twice, not next to each other", []int{0, 3, 0, 1, 0, 0, 2, 0, 0, 1, 0}, fault(api.ErrTwice, 8)},
		{"hash ahead of slot", []int{0, 2, 0, 0, 4, 2}, fault(api.ErrTwice, 2)},
		{"slot no thing's", []int{0, 2, 0, 1, 4, 2}, fault(api.ErrKind, 5)},
		{"first of two slots", []int{0, 2, 0, 1, 12, 0, 6, 2}, fault(api.ErrKind, 6)},
		{"slot odd beyond", []int{0, 2, 0, 1, 4, mostOdd + 2}, fault(api.ErrKind, 5)},
		{"slot odd below", []int{0, 2, 0, 1, 4, leastOdd - 2}, fault(api.ErrKind, 5)},
		{"weak slot no thing's", []int{0, 2, 0, 1, 6, 12}, fault(api.ErrKind, 5)},
		{"byte below", []int{0, 2, 0, 1, 5, -1}, fault(api.ErrKind, 5)},
		{"byte beyond", []int{0, 2, 0, 1, 9, 255, 256}, fault(api.ErrKind, 6)},
		{"a slot ahead of a later class", []int{0, 3, 0, 1, 4, 2, 1, 2, 0}, fault(api.ErrKind, 5)},
		{"a later class", []int{0, 3, 0, 1, 4, 1, 1, 2, 0}, fault(api.ErrKind, 6)},
	}
	for _, c := range cases {
		if got := Check(api.Heap{Words: c.words}); got != c.want {
			t.Errorf("%s: %v, want %v", c.name, got, c.want)
		}
	}
}

// spoilt calls visit with three() and full heaps, each word of which is each
// of the numbers in turn, and with all shorter beginnings of them.
func spoilt(visit func(w []int)) {
	for _, good := range [][]int{three(), full(23), {0, 2, 0, 1, 4, 0}} {
		for at := range good {
			visit(good[:at])
			for _, n := range numbers() {
				visit(with(good, at, n))
			}
		}
	}
}

// grown answers a heap of scattered things, made without the program.
func grown(d *dice) []int {
	things := d.below(8)
	w := []int{0, 1}
	var places []int
	for range things {
		size, form := d.below(5), d.below(3)
		places = append(places, len(w))
		w = append(w, 0, w[1], size*4+form)
		w = append(w, make([]int, size)...)
		w[1] += 1 + d.below(2)
	}
	for _, p := range places {
		if d.below(2) == 0 {
			w[p] = 2 * places[d.below(things)]
		}
		for at := p + 3; at < p+3+w[p+2]/4; at++ {
			switch {
			case w[p+2]%4 == api.Bytes:
				w[at] = d.below(256)
			case d.below(2) == 0:
				w[at] = 2 * places[d.below(things)]
			default:
				w[at] = 2*d.below(50) - 51
			}
		}
	}
	return w
}

func TestCheckAgainstTheChapter(t *testing.T) {
	visit := func(w []int) {
		if got, want := Check(api.Heap{Words: w}), wantCheck(w); got != want {
			t.Errorf("%v: %v, want %v", w, got, want)
		}
	}
	spoilt(visit)
	d := dice(1)
	all := numbers()
	for range 3000 {
		w := grown(&d)
		if f := Check(api.Heap{Words: w}); f != (api.Fault{}) {
			t.Fatal(w, f)
		}
		for range 4 {
			w[d.below(len(w))] = all[d.below(len(all))]
			visit(w)
		}
	}
}

func TestAllRefuseAHeapThatMayNotBe(t *testing.T) {
	visit := func(w []int) {
		if wantCheck(w) == (api.Fault{}) {
			return
		}
		h := api.Heap{Words: w}
		// The other arguments are wrong, too: ErrHeap is named first.
		for _, o := range []int{0, 1, 4, 3999} {
			if k, r, e := New(h, o, 3, -1); len(k.Words) != 0 || r != 0 || e != api.ErrHeap {
				t.Error("New", w, k, r, e)
			}
			if x, e := Look(h, o); !isZero(x) || e != api.ErrHeap {
				t.Error("Look", w, x, e)
			}
			if k, e := Put(h, o, -1, 2); len(k.Words) != 0 || e != api.ErrHeap {
				t.Error("Put", w, k, e)
			}
		}
		if all, e := Things(h); len(all) != 0 || e != api.ErrHeap {
			t.Error("Things", w, all, e)
		}
	}
	spoilt(visit)
	visit(nil)
	visit(full(maxWords + 1))
}

func isZero(x api.Thing) bool {
	return x.Class == 0 && x.Hash == 0 && x.Form == 0 && len(x.Slots) == 0
}

func TestThings(t *testing.T) {
	cases := []struct{ words, want []int }{
		{[]int{0, 1}, nil},
		{three(), []int{plainRef, bytesRef, weakRef}},
		{[]int{0, 10, 0, 9, 0, 0, 2, 0, 0, 5, 0}, []int{4, 10, 16}},
	}
	for _, c := range cases {
		if got, e := Things(api.Heap{Words: c.words}); e != api.OK || !slices.Equal(got, c.want) {
			t.Error(c.words, got, e)
		}
	}
	d := dice(2)
	for range 300 {
		w := grown(&d)
		places, _ := wantPlaces(w)
		got, e := Things(api.Heap{Words: w})
		if e != api.OK || len(got) != len(places) {
			t.Fatal(w, got, e)
		}
		for i, p := range places {
			if got[i] != p+p {
				t.Error(w, got)
			}
		}
	}
	if got, e := Things(api.Heap{Words: full(maxWords)}); e != api.OK || got[len(got)-1] < 2*1990 {
		t.Error(len(got), e)
	}
}

func TestLook(t *testing.T) {
	h := api.Heap{Words: three()}
	want := map[int]api.Thing{
		plainRef: {Class: weakRef, Hash: 8, Form: api.Plain, Slots: []int{bytesRef, mostOdd}},
		bytesRef: {Class: 0, Hash: 1, Form: api.Bytes, Slots: []int{0, 200, 255}},
		weakRef:  {Class: plainRef, Hash: 5, Form: api.Weak, Slots: []int{plainRef}},
	}
	for o, x := range want {
		got, e := Look(h, o)
		if e != api.OK || got.Class != x.Class || got.Hash != x.Hash || got.Form != x.Form || !slices.Equal(got.Slots, x.Slots) {
			t.Error(o, got, e)
		}
	}
	for _, o := range numbers() {
		if _, there := want[o]; there {
			continue
		}
		if got, e := Look(h, o); e != api.ErrKind || !isZero(got) {
			t.Error(o, got, e)
		}
	}
	if got, e := Look(heapOf(0, 2, 0, 1, 1), 4); e != api.OK || got.Form != api.Bytes || len(got.Slots) != 0 {
		t.Error(got, e)
	}
}

func TestNew(t *testing.T) {
	cases := []struct {
		words             []int
		class, form, size int
		want              []int
		ref               int
	}{
		{[]int{0, 1}, 0, api.Plain, 1, []int{0, 2, 0, 1, 4, 0}, 4},
		{[]int{0, 1}, 0, api.Plain, 0, []int{0, 2, 0, 1, 0}, 4},
		{[]int{0, 1}, 0, api.Bytes, 2, []int{0, 2, 0, 1, 9, 0, 0}, 4},
		{[]int{0, 1}, 0, api.Weak, 1, []int{0, 2, 0, 1, 6, 0}, 4},
		{[]int{0, 7, 0, 1, 0}, 4, api.Plain, 0, []int{0, 8, 0, 1, 0, 4, 7, 0}, 10},
		{[]int{0, maxHash}, 0, api.Plain, 0, []int{0, maxHash + 1, 0, maxHash, 0}, 4},
		{three(), bytesRef, api.Weak, 3, append(with(three(), 1, 10), bytesRef, 9, 14, 0, 0, 0), 34},
	}
	for _, c := range cases {
		got, o, e := New(api.Heap{Words: c.words}, c.class, c.form, c.size)
		if e != api.OK || o != c.ref || !slices.Equal(got.Words, c.want) {
			t.Errorf("%v: %v %v %v, want %v", c.words, got, o, e, c.want)
		}
	}
	for form := range 3 {
		got, o, e := New(heapOf(0, 1), 0, form, maxSize)
		if e != api.OK || o != 4 || len(got.Words) != 2+3+maxSize || Check(got) != (api.Fault{}) {
			t.Error(form, got, o, e)
		}
	}
}

func TestNewFillsTheHeap(t *testing.T) {
	for left := range 70 {
		w := full(maxWords - left)
		got, o, e := New(api.Heap{Words: w}, 4, api.Bytes, max(0, left-3))
		if left < 3 {
			if e != api.ErrFull || o != 0 || len(got.Words) != 0 {
				t.Error(left, got, o, e)
			}
			continue
		}
		if left-3 > maxSize {
			if e != api.ErrRange {
				t.Error(left, e)
			}
			continue
		}
		if e != api.OK || o != 2*len(w) || len(got.Words) != maxWords || Check(got) != (api.Fault{}) {
			t.Error(left, o, e)
		}
		if left-3 < maxSize {
			if got, o, e := New(api.Heap{Words: w}, 4, api.Bytes, left-2); e != api.ErrFull || o != 0 || len(got.Words) != 0 {
				t.Error(left, o, e)
			}
		}
	}
}

func TestNewRefuses(t *testing.T) {
	cases := []struct {
		words             []int
		class, form, size int
		want              api.Errno
	}{
		{three(), 1, 0, 0, api.ErrKind},
		{three(), 2, 0, 0, api.ErrKind},
		{three(), 6, 0, 0, api.ErrKind},
		{three(), 34, 0, 0, api.ErrKind},
		{three(), -4, 0, 0, api.ErrKind},
		{three(), 1, 3, -1, api.ErrKind},
		{three(), 0, 3, 0, api.ErrRange},
		{three(), 0, 4, 0, api.ErrRange},
		{three(), 0, -1, 0, api.ErrRange},
		{three(), 0, 0, -1, api.ErrRange},
		{three(), 0, 0, maxSize + 1, api.ErrRange},
		{three(), 0, 0, math.MaxInt, api.ErrRange},
		{three(), 0, 0, math.MinInt, api.ErrRange},
		{three(), 0, math.MaxInt, math.MaxInt, api.ErrRange},
		{[]int{0, maxHash + 1}, 0, 0, 0, api.ErrFull},
		{[]int{0, maxHash + 1}, 0, 3, 0, api.ErrRange},
		{[]int{0, maxHash + 1}, 4, 0, 0, api.ErrKind},
		{full(maxWords), 0, 0, 0, api.ErrFull},
		{full(maxWords), 0, 0, maxSize + 1, api.ErrRange},
		{full(maxWords), 1, 0, 0, api.ErrKind},
	}
	for _, c := range cases {
		got, o, e := New(api.Heap{Words: c.words}, c.class, c.form, c.size)
		if e != c.want || o != 0 || len(got.Words) != 0 {
			t.Errorf("class %d form %d size %d: %v %v %v, want %v", c.class, c.form, c.size, got, o, e, c.want)
		}
	}
}

// wantPut is B5 of the heap three(), said over again.
func wantPut(o, at, what int) api.Errno {
	refs := []int{plainRef, bytesRef, weakRef}
	which := slices.Index(refs, o)
	if which < 0 {
		return api.ErrKind
	}
	if at < 0 || at > []int{1, 2, 0}[which] {
		return api.ErrRange
	}
	fits := what == 0 || isSmallOdd(what) || slices.Contains(refs, what)
	if o == bytesRef {
		fits = what >= 0 && what < 256
	}
	if !fits {
		return api.ErrForm
	}
	return api.OK
}

func TestPut(t *testing.T) {
	first := map[int]int{plainRef: 5, bytesRef: 10, weakRef: 16}
	for _, o := range append([]int{plainRef, bytesRef, weakRef}, 0, 1, 2, 6, 16, 34, 4000, -4, math.MinInt, math.MaxInt) {
		for _, at := range []int{math.MinInt, -1, 0, 1, 2, 3, 4, math.MaxInt} {
			for _, what := range numbers() {
				got, e := Put(api.Heap{Words: three()}, o, at, what)
				if want := wantPut(o, at, what); e != want {
					t.Fatal(o, at, what, e, want)
				}
				if e != api.OK {
					if len(got.Words) != 0 {
						t.Error(o, at, what, got)
					}
					continue
				}
				if !slices.Equal(got.Words, with(three(), first[o]+at, what)) {
					t.Error(o, at, what, got)
				}
			}
		}
	}
	if _, e := Put(heapOf(0, 2, 0, 1, 0), 4, 0, 0); e != api.ErrRange {
		t.Error("no slots", e)
	}
}

// guarded answers words with room behind their length, and a look at whether
// anything there or in the words has been changed.
func guarded(words []int) (api.Heap, func() bool) {
	whole := append(slices.Clone(words), 77, 77, 77, 77, 77, 77, 77, 77)
	before := slices.Clone(whole)
	return api.Heap{Words: whole[:len(words)]}, func() bool { return slices.Equal(whole, before) }
}

// trample changes all that a list holds, also behind its length.
func trample(list []int) {
	list = list[:cap(list)]
	for i := range list {
		list[i] = -99
	}
}

func TestNothingIsChangedKeptOrShared(t *testing.T) {
	h, same := guarded(three())
	k, _, _ := New(h, 0, api.Plain, 2)
	p, _ := Put(h, plainRef, 0, 3)
	x, _ := Look(h, plainRef)
	y, _ := Look(h, plainRef)
	all, _ := Things(h)
	Check(h)
	if !same() {
		t.Fatal("changed", h)
	}
	for _, list := range [][]int{k.Words, p.Words, x.Slots, all} {
		if len(list) == 0 {
			t.Fatal("nothing came")
		}
		trample(list)
		if !same() {
			t.Fatal("shared", h)
		}
	}
	if !slices.Equal(y.Slots, []int{bytesRef, mostOdd}) {
		t.Error("two answers share", y)
	}
	trample(h.Words)
	if got, e := Things(api.Heap{Words: three()}); e != api.OK || len(got) != 3 {
		t.Error("kept", got, e)
	}
}

func TestAViewIsItsOwn(t *testing.T) {
	h, _ := guarded(three())
	v, f := See(h)
	trample(h.Words)
	if f != (api.Fault{}) || !slices.Equal(v.Things(), []int{plainRef, bytesRef, weakRef}) || v.Look(weakRef).Hash != 5 {
		t.Error(v, f)
	}
	trample(v.Look(plainRef).Slots)
	if v.Look(plainRef).Slots[0] != bytesRef {
		t.Error("a thing shares with its view")
	}
	none, f := See(heapOf(0))
	if f != fault(api.ErrSize, 0) || none.Things() != nil || none.Has(4) || !isZero(none.Look(4)) || !isZero(none.Look(1)) {
		t.Error(none, f)
	}
}

func TestFrontAndRoom(t *testing.T) {
	v, _ := See(heapOf(three()...))
	if got := v.Front(); !slices.Equal(got, []int{0, 9}) {
		t.Error(got)
	}
	trample(v.Front())
	if got := v.Front(); !slices.Equal(got, []int{0, 9}) {
		t.Error("the front is shared", got)
	}
	want := map[int]int{plainRef: 5, bytesRef: 6, weakRef: 4}
	for _, o := range append(numbers(), plainRef, bytesRef, weakRef) {
		if got := v.Room(o); got != want[o] {
			t.Error(o, got, want[o])
		}
	}
	none, _ := See(heapOf(0))
	if len(none.Front()) != 0 || none.Room(4) != 0 || len((View{}).Front()) != 0 {
		t.Error(none.Front(), none.Room(4))
	}
}

// What is laid thing by thing is the heap again.
func TestLaid(t *testing.T) {
	d := dice(3)
	for range 300 {
		w := grown(&d)
		v, _ := See(api.Heap{Words: w})
		got := v.Front()
		for _, o := range v.Things() {
			x := v.Look(o)
			laid := Laid(x)
			trample(x.Slots)
			if len(laid) != v.Room(o) {
				t.Fatal(w, o, laid)
			}
			got = append(got, laid...)
		}
		if !slices.Equal(got, w) {
			t.Fatal(w, got)
		}
	}
}

func TestTurned(t *testing.T) {
	more := func(o int) int { return o + 100 }
	for form := range 3 {
		slots, same := guarded([]int{4, 0, 7})
		got := Turned(api.Thing{Class: 6, Hash: 3, Form: form, Slots: slots.Words}, more)
		want := []int{104, 100, 107}
		if form == api.Bytes {
			want = []int{4, 0, 7}
		}
		if got.Class != 106 || got.Hash != 3 || got.Form != form || !slices.Equal(got.Slots, want) {
			t.Error(form, got)
		}
		trample(got.Slots)
		if !same() {
			t.Error("changed or shared", form, slots)
		}
	}
	if got := TurnedAll(nil, more); len(got) != 0 {
		t.Error(got)
	}
}

// What is laid over again, with nobody left out and nothing turned, is the heap
// again; else those alone that are asked for stand there, in that order.
func TestRelaid(t *testing.T) {
	d := dice(4)
	same := func(o int) int { return o }
	for range 300 {
		w := grown(&d)
		v, _ := See(api.Heap{Words: w})
		h := v.Relaid(v.Things(), same)
		if !slices.Equal(h.Words, w) {
			t.Fatal(w, h)
		}
		trample(h.Words)
		if again := v.Relaid(v.Things(), same); !slices.Equal(again.Words, w) {
			t.Fatal("shared", w, again)
		}
	}
	v, _ := See(heapOf(three()...))
	none := func(o int) int { return 0 }
	for _, c := range []struct{ things, want []int }{
		{nil, []int{0, 9}},
		{[]int{plainRef}, []int{0, 9, 0, 8, 8, 0, 0}},
		{[]int{weakRef, bytesRef}, []int{0, 9, 0, 5, 6, 0, 0, 1, 13, 0, 200, 255}},
	} {
		if h := v.Relaid(c.things, none); !slices.Equal(h.Words, c.want) {
			t.Error(c.things, h, c.want)
		}
	}
}

// A text that is laid is there again, and what New refuses is refused.
func TestTexts(t *testing.T) {
	for _, text := range []string{"", "a", "\x00\x7f\x80\xff", "long enough for some words", string(make([]byte, maxSize))} {
		h, same := guarded(three())
		k, o, e := NewText(h, text)
		want, ref, _ := New(h, 0, api.Bytes, len(text))
		if e != api.OK || o != ref || len(k.Words) != len(want.Words) || Check(k) != (api.Fault{}) || !same() {
			t.Errorf("%q: %v %d %v", text, k, o, e)
		}
		x, _ := Look(k, o)
		if x.Class != 0 || x.Form != api.Bytes || Text(x) != text || !slices.Equal(k.Words[2:len(three())], three()[2:]) {
			t.Errorf("%q: %v", text, k)
		}
	}
	refused := map[string]struct {
		h    api.Heap
		text string
		want api.Errno
	}{
		"heap": {heapOf(0), "a", api.ErrHeap},
		"size": {heapOf(0, 1), string(make([]byte, maxSize+1)), api.ErrRange},
		"room": {heapOf(full(maxWords - 3)...), "a", api.ErrFull},
		"hash": {heapOf(0, maxHash+1), "", api.ErrFull},
	}
	for name, c := range refused {
		if k, o, e := NewText(c.h, c.text); e != c.want || o != 0 || len(k.Words) != 0 {
			t.Error(name, k, o, e)
		}
	}
}

// A view that is changed is what New and Put answer one after the other; what
// they refuse is refused, and changes nothing.
func TestAViewIsChanged(t *testing.T) {
	d := dice(13)
	for range 60 {
		h, same := guarded(grown(&d))
		v, _ := See(h)
		now := api.Heap{Words: slices.Clone(h.Words)}
		for range 40 {
			now = changedOnce(t, &d, &v, now)
			if got := v.Heap(); !slices.Equal(got.Words, now.Words) || v.Words() != len(now.Words) {
				t.Fatal(got, now, v.Words())
			}
		}
		trample(v.Heap().Words)
		if want, _ := Things(now); !slices.Equal(v.Things(), want) || !slices.Equal(v.Heap().Words, now.Words) || !same() {
			t.Fatal(now, v)
		}
	}
}

// changedOnce changes v as it changes h, and answers that.
func changedOnce(t *testing.T, d *dice, v *View, h api.Heap) api.Heap {
	t.Helper()
	o, what := 2*d.below(len(h.Words)+2), d.below(2*len(h.Words)+8)
	if d.below(2) == 0 {
		at := d.below(6) - 1
		k, e := Put(h, o, at, what)
		if got := v.Put(o, at, what); got != e {
			t.Fatal(h, o, at, what, got, e)
		} else if e == api.OK {
			return k
		}
		return h
	}
	form, size := d.below(4), d.below(63)-1
	k, ref, e := New(h, o, form, size)
	got, is := v.Add(o, form, size)
	if got != ref || is != e {
		t.Fatal(h, o, form, size, got, is, ref, e)
	}
	if e != api.OK {
		return h
	}
	return k
}

func TestAViewThatIsFull(t *testing.T) {
	v, _ := See(heapOf(full(maxWords - 4)...))
	for _, c := range []struct {
		size int
		want api.Errno
	}{{2, api.ErrFull}, {1, api.OK}, {0, api.ErrFull}} {
		if _, e := v.Add(0, api.Plain, c.size); e != c.want {
			t.Error(c.size, e)
		}
	}
	if v.Words() != maxWords || Check(v.Heap()) != (api.Fault{}) {
		t.Error(v.Words())
	}
	for size := range maxSize + 1 {
		v, _ := See(heapOf(0, 1))
		if o, e := v.Add(0, api.Plain, size); e != api.OK || v.Room(o) != Takes(size) || v.Words() != 2+Takes(size) {
			t.Error(size, o, e)
		}
	}
	none, _ := See(heapOf(0))
	if o, e := none.Add(0, api.Plain, 0); o != 0 || e != api.ErrHeap || none.Put(4, 0, 0) != api.ErrKind || none.Words() != 0 || len(none.Heap().Words) != 0 {
		t.Error(o, e)
	}
}
