package image

import (
	"bytes"
	"math"
	"math/big"
	"slices"
	"testing"

	"gesso/api"
	"gesso/heap"
	"gesso/reach"
)

// The limits stand here as plain digits, so that a slip in how the program
// works them out is seen.
const (
	maxWords = 2000
	maxRoots = 600
	maxHash  = 10000
	mostOdd  = 2147483647
	leastOdd = -2147483647
)

var fine = api.Fault{}

func fault(code api.Errno, at int) api.Fault { return api.Fault{Code: code, At: at} }

// kept is a heap's words, and roots.
type kept struct{ words, roots []int }

func (k kept) write() ([]byte, api.Fault) { return Write(api.Heap{Words: k.words}, k.roots) }

// holdWritten asks that Write answers b.
func (k kept) holdWritten(t *testing.T, name string, b []byte) {
	t.Helper()
	if got, f := k.write(); f != fine || !bytes.Equal(got, b) {
		t.Errorf("%s: Write: % x %v, want % x", name, got, f, b)
	}
}

// holdRead asks that Read of b answers k.
func (k kept) holdRead(t *testing.T, name string, b []byte) {
	t.Helper()
	if h, roots, f := Read(b); f != fine || !slices.Equal(h.Words, k.words) || !slices.Equal(roots, k.roots) {
		t.Errorf("%s: Read: %v %v %v, want %v", name, h.Words, roots, f, k)
	}
}

// notWritten asks that Write answers that fault, and nothing else.
func (k kept) notWritten(t *testing.T, name string, want api.Fault) {
	t.Helper()
	if b, f := k.write(); f != want || len(b) != 0 {
		t.Errorf("%s: Write: % x %v, want %v", name, b, f, want)
	}
}

// notRead asks that Read of b answers that fault, and nothing else.
func notRead(t *testing.T, name string, b []byte, want api.Fault) {
	t.Helper()
	if h, roots, f := Read(b); f != want || len(h.Words) != 0 || len(roots) != 0 {
		t.Errorf("%s: Read of % x: %v %v %v, want %v", name, b, h.Words, roots, f, want)
	}
}

// imageOf joins what an image is made of.
func imageOf(parts ...[]byte) []byte { return append([]byte{'G', 'E'}, slices.Concat(parts...)...) }

// wantBytes is the first half of F1 said over again, by numbers without end.
func wantBytes(n *big.Int) []byte {
	z := new(big.Int).Mul(n, big.NewInt(2))
	if n.Sign() < 0 {
		z.Neg(z).Sub(z, big.NewInt(1))
	}
	var b []byte
	for rest := new(big.Int); ; {
		z.DivMod(z, big.NewInt(128), rest)
		if z.Sign() == 0 {
			return append(b, byte(rest.Int64()))
		}
		b = append(b, byte(rest.Int64())+128)
	}
}

// as is a number as bytes.
func as(n int) []byte { return wantBytes(big.NewInt(int64(n))) }

// allAs is a row of numbers as bytes.
func allAs(numbers ...int) []byte {
	var b []byte
	for _, n := range numbers {
		b = append(b, as(n)...)
	}
	return b
}

// want is the second half of F1 said over again.
func (k kept) want() []byte {
	return imageOf(as(len(k.words)), allAs(k.words...), as(len(k.roots)), allAs(k.roots...))
}

func TestTheExample(t *testing.T) {
	b := []byte{0x47, 0x45, 0x04, 0x00, 0x02, 0x00}
	k := kept{words: []int{0, 1}}
	k.holdWritten(t, "example", b)
	k.holdRead(t, "example", b)
	k.roots = []int{}
	k.holdWritten(t, "example, an empty list", b)
}

// Images byte for byte, written by hand.
func TestImages(t *testing.T) {
	for _, c := range []struct {
		name string
		kept kept
		b    string
	}{
		{"no thing, small roots and nil", kept{[]int{0, 1}, []int{0, 1, -1, 3}}, "GE\x04\x00\x02\x08\x00\x02\x01\x06"},
		{"a next hash of two bytes", kept{[]int{0, 64}, nil}, "GE\x04\x00\x80\x01\x00"},
		{"the greatest next hash", kept{[]int{0, maxHash + 1}, nil}, "GE\x04\x00\xa2\x9c\x01\x00"},
		{"a thing", kept{[]int{0, 2, 0, 1, 4, 0}, []int{4}}, "GE\x0c\x00\x04\x00\x02\x08\x00\x02\x08"},
		{
			"two things, and a class", kept{[]int{0, 9, 0, 8, 5, 255, 4, 7, 10, 12, -63}, []int{12, 4, 12}},
			"GE\x16\x00\x12\x00\x10\x0a\xfe\x03\x08\x0e\x14\x18\x7d\x06\x18\x08\x18",
		},
		{
			"the ends of small ones", kept{[]int{0, 2, 0, 1, 8, mostOdd, leastOdd}, []int{leastOdd, mostOdd}},
			"GE\x0e\x00\x04\x00\x02\x10\xfe\xff\xff\xff\x0f\xfd\xff\xff\xff\x0f\x04\xfd\xff\xff\xff\x0f\xfe\xff\xff\xff\x0f",
		},
	} {
		c.kept.holdWritten(t, c.name, []byte(c.b))
		c.kept.holdRead(t, c.name, []byte(c.b))
		if !bytes.Equal(c.kept.want(), []byte(c.b)) {
			t.Errorf("%s: the tests themselves are wrong: % x", c.name, c.kept.want())
		}
	}
}

// numbersAsBytes are those that F1 turns at, written by hand.
func numbersAsBytes() map[int]string {
	return map[int]string{
		0: "\x00", -1: "\x01", 1: "\x02", -2: "\x03", 2: "\x04",
		63: "\x7e", -64: "\x7f", 64: "\x80\x01", -65: "\x81\x01", 127: "\xfe\x01", 128: "\x80\x02",
		8191: "\xfe\x7f", -8192: "\xff\x7f", 8192: "\x80\x80\x01", -8193: "\x81\x80\x01",
		mostOdd: "\xfe\xff\xff\xff\x0f", leastOdd: "\xfd\xff\xff\xff\x0f",
		1<<55 - 1: "\xfe\xff\xff\xff\xff\xff\xff\x7f", -1 << 55: "\xff\xff\xff\xff\xff\xff\xff\x7f",
		1 << 55: "\x80\x80\x80\x80\x80\x80\x80\x80\x01", -1<<55 - 1: "\x81\x80\x80\x80\x80\x80\x80\x80\x01",
		1<<62 - 1: "\xfe\xff\xff\xff\xff\xff\xff\xff\x7f", -1 << 62: "\xff\xff\xff\xff\xff\xff\xff\xff\x7f",
	}
}

func TestNumbers(t *testing.T) {
	for n, b := range numbersAsBytes() {
		if got := string(appendNumber(nil, n)); got != b || string(as(n)) != b {
			t.Errorf("%d: % x, want % x", n, got, b)
		}
		r := reader{b: []byte(b + "\x05")}
		if got := r.number(); got != n || r.at != len(b) {
			t.Errorf("% x: %d up to %d, want %d", b, got, r.at, n)
		}
	}
	for n := -70000; n < 70000; n++ {
		b := appendNumber(nil, n)
		r := reader{b: b}
		if got := r.number(); !bytes.Equal(b, as(n)) || got != n || r.at != len(b) {
			t.Fatal(n, b, got, r.at)
		}
	}
}

// What can stand in a heap or as a root is written and read as it is.
func TestNumbersThatMayStand(t *testing.T) {
	for n, b := range numbersAsBytes() {
		if n%2 != 0 && leastOdd <= n && n <= mostOdd {
			k := kept{[]int{0, 2, 0, 1, 4, n}, []int{0, n, 4}}
			whole := []byte("GE\x0c\x00\x04\x00\x02\x08" + b + "\x06\x00" + b + "\x08")
			k.holdWritten(t, "small", whole)
			k.holdRead(t, "small", whole)
		}
		if 0 <= n && n <= 255 {
			k := kept{[]int{0, 2, 0, 1, 5, n}, nil}
			whole := []byte("GE\x0c\x00\x04\x00\x02\x0a" + b + "\x00")
			k.holdWritten(t, "a byte", whole)
			k.holdRead(t, "a byte", whole)
		}
		if 1 <= n && n <= maxHash+1 {
			k := kept{[]int{0, n}, nil}
			whole := []byte("GE\x04\x00" + b + "\x00")
			k.holdWritten(t, "the next hash", whole)
			k.holdRead(t, "the next hash", whole)
		}
	}
}

// What is read well and can't stand there is a fault of the heap or the roots,
// whatever the number is.
func TestNumbersThatMayNotStand(t *testing.T) {
	for n, b := range numbersAsBytes() {
		small := n%2 != 0 && leastOdd <= n && n <= mostOdd
		if !small && n != 0 && n != 4 {
			notRead(t, "a slot", []byte("GE\x0c\x00\x04\x00\x02\x08"+b+"\x00"), fault(api.ErrKind, 5))
			notRead(t, "a root", []byte("GE\x0c\x00\x04\x00\x02\x08\x00\x04\x00"+b), fault(api.ErrKind, 1))
		}
		if n < 0 || n > 255 {
			notRead(t, "a byte", []byte("GE\x0c\x00\x04\x00\x02\x0a"+b+"\x00"), fault(api.ErrKind, 5))
		}
		if n != 0 {
			notRead(t, "the word 0", []byte("GE\x04"+b+"\x02\x00"), fault(api.ErrForm, 0))
		}
		if n < 1 || n > maxHash+1 {
			notRead(t, "the next hash", []byte("GE\x04\x00"+b+"\x00"), fault(api.ErrForm, 1))
		}
	}
}

// noNumbers are bytes that are none, as long as they are read: a last byte 0
// behind others, and ten of them, the least and the greatest number of the
// machine among them.
func noNumbers() map[string][]byte {
	nine := slices.Repeat([]byte{255}, 9)
	return map[string][]byte{
		"0 behind 0":                     {128, 0},
		"0 behind 1":                     {129, 0},
		"0 behind 127":                   {255, 0},
		"0 behind two":                   {130, 128, 0},
		"0 behind two that go on":        {255, 255, 0},
		"0 as the ninth":                 append(slices.Repeat([]byte{128}, 8), 0),
		"0 as the ninth, behind others":  append(slices.Repeat([]byte{255}, 8), 0),
		"0 as the tenth":                 append(slices.Repeat([]byte{128}, 9), 0),
		"ten":                            append(slices.Repeat([]byte{128}, 9), 1),
		"ten, of 127":                    append(slices.Clone(nine), 127),
		"ten that go on":                 slices.Repeat([]byte{255}, 10),
		"ten 128":                        slices.Repeat([]byte{128}, 10),
		"the least number there is":      as(math.MinInt),
		"the greatest number there is":   as(math.MaxInt),
		"one more than nine bytes hold":  as(1 << 62),
		"one less than nine bytes hold":  as(-1<<62 - 1),
		"more than the machine's":        wantBytes(new(big.Int).Lsh(big.NewInt(1), 64)),
		"a number of a hundred and more": wantBytes(new(big.Int).Lsh(big.NewInt(1), 800)),
	}
}

// places are where a number can stand in an image: what is ahead of it.
func places() map[string][]byte {
	return map[string][]byte{
		"how many words":  imageOf(),
		"the word 0":      imageOf(as(2)),
		"the word 1":      imageOf(as(6), allAs(0)),
		"a class":         imageOf(as(6), allAs(0, 2)),
		"a later word":    imageOf(as(6), allAs(0, 2, 0, 1)),
		"the last word":   imageOf(as(6), allAs(0, 2, 0, 1, 4)),
		"how many roots":  imageOf(as(2), allAs(0, 1)),
		"the first root":  imageOf(as(2), allAs(0, 1), as(3)),
		"the second root": imageOf(as(2), allAs(0, 1), as(3), allAs(1)),
		"the last root":   imageOf(as(2), allAs(0, 1), as(3), allAs(1, mostOdd)),
		"a wrong heap":    imageOf(as(3), allAs(7, -4)),
		"a wrong root":    imageOf(as(2), allAs(0, 1), as(3), allAs(2, mostOdd+1)),
		"far":             imageOf(as(2000), allAs(make([]int, 1500)...)),
	}
}

// Where a number is none, At is its first byte, wherever it stands and whatever
// comes behind it.
func TestNumbersThatAreNone(t *testing.T) {
	for where, ahead := range places() {
		for what, none := range noNumbers() {
			for _, behind := range [][]byte{nil, {0}, {255}, allAs(1, 2, 3, 4, 5, 6, 7)} {
				name := what + " as " + where
				notRead(t, name, slices.Concat(ahead, none, behind), fault(api.ErrForm, len(ahead)))
			}
		}
	}
}

// Where b ends within a number, At is the length: also where it has nine bytes
// that go on, since a tenth is wanted then.
func TestNumbersThatEndEarly(t *testing.T) {
	for where, ahead := range places() {
		for many := range 10 {
			for _, c := range []byte{128, 129, 255} {
				b := slices.Concat(ahead, slices.Repeat([]byte{c}, many))
				notRead(t, where, b, fault(api.ErrShort, len(b)))
			}
		}
	}
}

func TestNineBytesAreANumber(t *testing.T) {
	most, least := as(1<<62-1), as(-1<<62)
	if len(most) != 9 || len(least) != 9 {
		t.Fatal(most, least)
	}
	for _, n := range [][]byte{most, least, append(slices.Repeat([]byte{128}, 8), 1)} {
		notRead(t, "how many words", imageOf(n, allAs(0, 1, 0)), fault(api.ErrSize, 2))
		notRead(t, "the word 0", imageOf(as(2), n, allAs(1, 0)), fault(api.ErrForm, 0))
		notRead(t, "the word 1", imageOf(as(2), allAs(0), n, allAs(0)), fault(api.ErrForm, 1))
		notRead(t, "how many roots", imageOf(as(2), allAs(0, 1), n), fault(api.ErrSize, 5))
		notRead(t, "a root", imageOf(as(2), allAs(0, 1), as(2), allAs(0), n), fault(api.ErrKind, 1))
		notRead(t, "a root, and more", imageOf(as(2), allAs(0, 1), as(1), n, as(0)), fault(api.ErrRest, 15))
	}
}

// some are kept ones that may be, of all that images are made of.
func some() []kept {
	return []kept{
		{[]int{0, 1}, nil},
		{[]int{0, 1}, []int{0}},
		{[]int{0, maxHash + 1}, []int{mostOdd, leastOdd, 0, 1, -1, 63, -65}},
		{[]int{0, 2, 0, 1, 4, 0}, []int{4}},
		{[]int{0, 9, 0, 8, 5, 255, 4, 7, 10, 12, -63}, []int{12, 4, 12}},
		{[]int{0, 77, 14, 5, 8, 14, mostOdd, 0, 76, 6, leastOdd}, []int{4, 14, 4}},
		{[]int{0, 300, 0, 299, 0, 4, 64, 0, 10, 65, 9, 64, 200}, []int{10, 16, -65}},
	}
}

func TestEndsAtEveryByte(t *testing.T) {
	for _, k := range some() {
		b := k.want()
		k.holdRead(t, "whole", b)
		for n := range b {
			notRead(t, "an end", b[:n], fault(api.ErrShort, n))
		}
	}
}

func TestTheFirstTwoBytes(t *testing.T) {
	notRead(t, "no bytes", nil, fault(api.ErrShort, 0))
	notRead(t, "no bytes, an empty list", []byte{}, fault(api.ErrShort, 0))
	notRead(t, "one byte", []byte("G"), fault(api.ErrShort, 1))
	notRead(t, "two bytes", []byte("GE"), fault(api.ErrShort, 2))
	rest := []string{"", "\x04\x00\x02\x00", "\x04", "\x80\x00", "\x02", "\x04\x00\x02\x00\x00", "GE\x04\x00\x02\x00"}
	for c := range 256 {
		if c != 'G' {
			notRead(t, "another byte alone", []byte{byte(c)}, fault(api.ErrForm, 0))
			for _, s := range rest {
				notRead(t, "another first byte", append([]byte{byte(c), 'E'}, s...), fault(api.ErrForm, 0))
				notRead(t, "another first byte", append([]byte{byte(c)}, s...), fault(api.ErrForm, 0))
			}
		}
		if c != 'E' {
			for _, s := range rest {
				notRead(t, "another second byte", append([]byte{'G', byte(c)}, s...), fault(api.ErrForm, 0))
			}
		}
	}
}

// heapOf answers the words of a heap that may be, of that many: as many things
// as there can be, and what is left as slots of the last.
func heapOf(many int) []int {
	words := []int{0, maxHash + 1}
	for len(words)+3 <= many {
		words = append(words, 0, len(words), 0)
	}
	if left := many - len(words); left > 0 {
		words[len(words)-1] = 4 * left
		words = append(words, make([]int, left)...)
	}
	return words
}

func TestHowManyWords(t *testing.T) {
	for _, many := range []int{2, 5, 6, 7, 8, 63, 64, 127, 128, 1999, maxWords} {
		k := kept{heapOf(many), []int{0}}
		if f := heap.Check(api.Heap{Words: k.words}); f != fine || len(k.words) != many {
			t.Fatal(many, f)
		}
		k.holdWritten(t, "many", k.want())
		k.holdRead(t, "many", k.want())
	}
	for _, many := range []int{
		0, 1, -1, -2, -64, -65, -2000, maxWords + 1, maxWords + 2, 8191, 8192, 65536, 1 << 30, mostOdd, leastOdd,
		1<<32 + 2, 1<<40 + 2, -1<<33 + 2, 1 << 61, 1<<62 - 1, -1 << 62,
	} {
		for _, behind := range [][]byte{nil, allAs(0, 1), allAs(0, 1, 0), {255}, {128, 0}, make([]byte, 3000)} {
			notRead(t, "no such many words", imageOf(as(many), behind), fault(api.ErrSize, 2))
		}
	}
	// Said to be more than there are, b ends early; fewer, and the next number
	// is how many roots there are.
	notRead(t, "fewer words", imageOf(as(maxWords), make([]byte, 1999)), fault(api.ErrShort, 2003))
	notRead(t, "no roots said", imageOf(as(maxWords), make([]byte, 2000)), fault(api.ErrShort, 2004))
	notRead(t, "no heap", imageOf(as(maxWords), make([]byte, 2001)), fault(api.ErrForm, 1))
	notRead(t, "one more word", imageOf(as(maxWords), make([]byte, 2002)), fault(api.ErrRest, 2005))
}

// smalls answers that many references of small ones, of one to five bytes.
func smalls(many int) []int {
	list := make([]int, many)
	for i := range list {
		list[i] = []int{1, -1, 65, -12345, mostOdd, leastOdd, 7}[i%7]
	}
	return list
}

func TestHowManyRoots(t *testing.T) {
	for _, many := range []int{0, 1, 2, 63, 64, 599, maxRoots} {
		k := kept{[]int{0, 1}, smalls(many)}
		k.holdWritten(t, "many", k.want())
		k.holdRead(t, "many", k.want())
	}
	for _, many := range []int{maxRoots + 1, maxRoots + 2, 1200, 100000} {
		k := kept{[]int{0, 1}, smalls(many)}
		k.notWritten(t, "too many", fault(api.ErrSize, 0))
		notRead(t, "too many", k.want(), fault(api.ErrSize, 5))
	}
	for _, many := range []int{
		-1, -2, -64, -65, maxRoots + 1, maxRoots + 2, 8192, 1 << 30, mostOdd, leastOdd, 1 << 32, 1<<40 + 1, -1 << 33, 1 << 61,
		1<<62 - 1, -1 << 62,
	} {
		for _, behind := range [][]byte{nil, {0}, allAs(0, 1, 0), {255}, {128, 0}, make([]byte, 3000)} {
			b := imageOf(as(3), allAs(0, 1, 700), as(many), behind)
			notRead(t, "no such many roots", b, fault(api.ErrSize, 7))
		}
	}
	notRead(t, "fewer roots", imageOf(as(2), allAs(0, 1), as(600), make([]byte, 599)), fault(api.ErrShort, 606))
	notRead(t, "one more root", imageOf(as(2), allAs(0, 1), as(600), make([]byte, 601)), fault(api.ErrRest, 607))
}

func TestTheGreatestImage(t *testing.T) {
	words := []int{0, maxHash + 1}
	for len(words)+63 <= maxWords {
		words = append(words, 4, maxHash-len(words), 240)
		words = append(words, slices.Repeat([]int{leastOdd, mostOdd, 130}, 20)...)
	}
	left := maxWords - len(words) - 3
	words = append(words, 4, 1, 4*left+2)
	words = append(words, slices.Repeat([]int{leastOdd}, left)...)
	k := kept{words, slices.Repeat([]int{leastOdd}, maxRoots)}
	if len(words) != maxWords {
		t.Fatal(len(words))
	}
	b := k.want()
	k.holdWritten(t, "greatest", b)
	k.holdRead(t, "greatest", b)
	for n := range b {
		if _, _, f := Read(b[:n]); f != fault(api.ErrShort, n) {
			t.Fatal(n, f)
		}
	}
}

func TestBytesThatAreLeft(t *testing.T) {
	for _, k := range some() {
		b := k.want()
		for _, left := range []string{"\x00", "\x01", "\x80", "\xff", "GE", "\x00\x00", string(b), "\xff\xff\xff\xff\xff\xff\xff\xff\xff\xff"} {
			notRead(t, "left", append(slices.Clone(b), left...), fault(api.ErrRest, len(b)))
		}
		notRead(t, "many are left", append(slices.Clone(b), make([]byte, 1<<20)...), fault(api.ErrRest, len(b)))
	}
}

// wrongs are kept ones that may not be, and their fault.
func wrongs() map[api.Fault][]kept {
	two := []int{0, 3, 0, 1, 0, 0, 2, 4, 0}
	return map[api.Fault][]kept{
		fault(api.ErrForm, 0): {{[]int{1, 1}, nil}, {[]int{-1, 0}, []int{2}}},
		fault(api.ErrForm, 1): {{[]int{0, 0}, nil}, {[]int{0, maxHash + 2}, []int{2}}, {[]int{0, -1, 3}, nil}},
		fault(api.ErrForm, 2): {{[]int{0, 2, 0, 1, 3}, nil}, {[]int{0, 2, 0}, []int{2}}, {[]int{0, 2, 0, 1, -4}, nil}},
		fault(api.ErrForm, 5): {{[]int{0, 3, 0, 1, 0, 0, 2}, []int{4}}, {[]int{0, 3, 1, 0, 0, 0, 2, 3}, []int{4}}},
		fault(api.ErrKind, 2): {{[]int{0, 2, 6, 1, 0}, nil}, {[]int{0, 2, 1, 1, 0}, nil}, {two, []int{4, 10, 6}}, {two, []int{0, 1, 2, 2}}},
		fault(api.ErrTwice, 5): {
			{[]int{0, 3, 0, 1, 0, 0, 1, 0}, nil}, {[]int{0, 3, 0, 1, 0, 0, 3, 0}, []int{2}},
		},
		fault(api.ErrKind, 8): {{[]int{0, 3, 0, 1, 0, 0, 2, 4, 6}, nil}, {[]int{0, 3, 0, 1, 0, 0, 2, 5, 256}, []int{6}}},
		fault(api.ErrKind, 0): {{two, []int{2}}, {two, []int{mostOdd + 1, 2}}, {[]int{0, 1}, []int{4}}, {two, []int{-4}}},
		fault(api.ErrKind, 1): {{two, []int{10, 12, 6}}, {two, []int{1, mostOdd + 2}}, {two, []int{1, leastOdd - 2}}},
	}
}

// A heap or roots that may not be are no image, and none is read as them.
func TestFaultsOfTheHeapAndRoots(t *testing.T) {
	for want, all := range wrongs() {
		for _, k := range all {
			k.notWritten(t, "wrong", want)
			b := k.want()
			notRead(t, "wrong", b, want)
			// Whatever is wrong with the bytes comes ahead of that.
			notRead(t, "wrong, and left", append(slices.Clone(b), 0), fault(api.ErrRest, len(b)))
			notRead(t, "wrong, and short", b[:len(b)-1], fault(api.ErrShort, len(b)-1))
		}
	}
}

func TestFaultsOfWrite(t *testing.T) {
	kept{}.notWritten(t, "no words", fault(api.ErrSize, 0))
	kept{words: []int{0}}.notWritten(t, "one word", fault(api.ErrSize, 0))
	kept{words: heapOf(maxWords + 1)}.notWritten(t, "one word more", fault(api.ErrSize, 0))
	many := smalls(maxRoots + 1)
	for want, all := range wrongs() {
		for _, k := range all {
			if heap.Check(api.Heap{Words: k.words}) == fine {
				// The roots' own fault comes ahead of how many they are.
				k.roots = append(slices.Clone(k.roots), many...)
			} else {
				k.roots = many
			}
			k.notWritten(t, "too many, too", want)
		}
	}
	for _, at := range []int{0, 1, 599, 600} {
		k := kept{[]int{0, 1}, slices.Clone(many)}
		k.roots[at] = 4
		k.notWritten(t, "a root and too many", fault(api.ErrKind, at))
	}
	long := kept{[]int{0, 1}, append(smalls(200000), 2)}
	long.notWritten(t, "a root far behind", fault(api.ErrKind, 200000))
	for _, n := range []int{math.MinInt, math.MinInt + 1, math.MaxInt - 1, math.MaxInt} {
		kept{[]int{0, 1}, []int{0, n}}.notWritten(t, "a root", fault(api.ErrKind, 1))
		kept{[]int{n, n}, []int{n}}.notWritten(t, "a word", fault(api.ErrForm, 0))
		kept{[]int{0, 2, 0, 1, 4, n}, []int{n}}.notWritten(t, "a slot", fault(api.ErrKind, 5))
	}
}

// Several things are wrong with b: the first, as one reads, is told.
func TestWhichFaultIsFirst(t *testing.T) {
	for _, c := range []struct {
		name string
		b    string
		want api.Fault
	}{
		{"no GE, and short", "GF", fault(api.ErrForm, 0)},
		{"no GE, and no number", "GF\x80\x00", fault(api.ErrForm, 0)},
		{"too few words, and short", "GE\x02", fault(api.ErrSize, 2)},
		{"too few words, and no number", "GE\x02\x80\x00", fault(api.ErrSize, 2)},
		{"no number that would be too few", "GE\x80\x00", fault(api.ErrForm, 2)},
		{"no number that would be too many", "GE\xff\xff\xff\xff\xff\xff\xff\xff\xff\x01", fault(api.ErrForm, 2)},
		{"an end in a number that would be too many", "GE\xff\xff\xff\xff\xff\xff\xff\xff\xff", fault(api.ErrShort, 11)},
		{"a wrong word, and short", "GE\x04\x02\x02", fault(api.ErrShort, 5)},
		{"a wrong word, and no number", "GE\x04\x02\x81\x00\x00", fault(api.ErrForm, 4)},
		{"a wrong word, and too many roots", "GE\x04\x02\x02\xb2\x09", fault(api.ErrSize, 5)},
		{"a wrong word, and fewer than no roots", "GE\x04\x02\x02\x01", fault(api.ErrSize, 5)},
		{"a wrong word, and a byte left", "GE\x04\x02\x02\x00\x00", fault(api.ErrRest, 6)},
		{"a wrong word, and a wrong root", "GE\x04\x02\x02\x02\x04", fault(api.ErrForm, 0)},
		{"no number, and no number", "GE\x04\x80\x00\x80\x00\x00", fault(api.ErrForm, 3)},
		{"no number, and too many roots", "GE\x04\x00\x82\x00\xb2\x09", fault(api.ErrForm, 4)},
		{"too many roots, and short", "GE\x04\x00\x02\xb2\x09", fault(api.ErrSize, 5)},
		{"fewer than no roots, and a byte left", "GE\x04\x00\x02\x01\x00", fault(api.ErrSize, 5)},
		{"a wrong root, and short", "GE\x04\x00\x02\x04\x04", fault(api.ErrShort, 7)},
		{"a wrong root, and no number", "GE\x04\x00\x02\x04\x04\x80\x00", fault(api.ErrForm, 7)},
		{"a wrong root, and a byte left", "GE\x04\x00\x02\x04\x04\x04\xff", fault(api.ErrRest, 8)},
		{"no number, and a byte left", "GE\x04\x00\x02\x02\x80\x00\x00", fault(api.ErrForm, 6)},
		{"two wrong roots", "GE\x04\x00\x02\x06\x02\x04\x04", fault(api.ErrKind, 1)},
	} {
		notRead(t, c.name, []byte(c.b), c.want)
	}
}

// wantNumber answers the number that stands at at, and where it ends; else the
// fault.
func wantNumber(b []byte, at int) (*big.Int, int, api.Fault) {
	last := at
	for last < len(b) && b[last] >= 128 && last < at+9 {
		last++
	}
	if last == len(b) {
		return nil, 0, fault(api.ErrShort, len(b))
	}
	if last == at+9 || last > at && b[last] == 0 {
		return nil, 0, fault(api.ErrForm, at)
	}
	z := new(big.Int)
	for i := last; i >= at; i-- {
		z.Mul(z, big.NewInt(128)).Add(z, big.NewInt(int64(b[i]%128)))
	}
	odd := z.Bit(0) == 1
	if odd {
		z.Add(z, big.NewInt(1)).Neg(z)
	}
	return z.Div(z, big.NewInt(2)), last + 1, fine
}

// wantRead is F3 said over again.
func wantRead(b []byte) (kept, api.Fault) {
	for i, c := range []byte{'G', 'E'} {
		if i == len(b) {
			return kept{}, fault(api.ErrShort, i)
		}
		if b[i] != c {
			return kept{}, fault(api.ErrForm, 0)
		}
	}
	at := 2
	var lists [2][]int
	for i, ends := range [2][2]int64{{2, maxWords}, {0, maxRoots}} {
		many, next, f := wantNumber(b, at)
		if f != fine {
			return kept{}, f
		}
		if many.Cmp(big.NewInt(ends[0])) < 0 || many.Cmp(big.NewInt(ends[1])) > 0 {
			return kept{}, fault(api.ErrSize, at)
		}
		at = next
		for range many.Int64() {
			n, next, f := wantNumber(b, at)
			if f != fine {
				return kept{}, f
			}
			lists[i], at = append(lists[i], int(n.Int64())), next
		}
	}
	if at < len(b) {
		return kept{}, fault(api.ErrRest, at)
	}
	if _, f := reach.Reach(api.Heap{Words: lists[0]}, lists[1]); f != fine {
		return kept{}, f
	}
	return kept{lists[0], lists[1]}, fine
}

// hold asks of b all that F3 says and, where it is an image, what F4 says.
func hold(t *testing.T, b []byte) api.Fault {
	t.Helper()
	want, f := wantRead(b)
	if f != fine {
		notRead(t, "a fault", b, f)
		return f
	}
	want.holdRead(t, "an image", b)
	h, roots, _ := Read(b)
	kept{h.Words, roots}.holdWritten(t, "read and written", b)
	return fine
}

// dice are numbers from a fixed rule.
type dice uint64

func (d *dice) below(n int) int {
	*d = *d*6364136223846793005 + 1442695040888963407
	return int(uint64(*d)>>33) % n
}

func (d *dice) one(list []int) int { return list[d.below(len(list))] }

// any answers a heap of some things, and roots, that may be.
func (d *dice) any() kept {
	n := d.below(8)
	sizes, refs := make([]int, n), []int{0}
	place := 2
	for i := range sizes {
		sizes[i] = d.below(5)
		refs = append(refs, 2*place)
		place += 3 + sizes[i]
	}
	all := append([]int{1, -1, 63, -65, mostOdd, leastOdd, 2*d.below(1000000) + 1}, refs...)
	step := 1 + d.below(700)
	k := kept{words: []int{0, n*step + 1 + d.below(3)}}
	for i, size := range sizes {
		form := d.below(3)
		k.words = append(k.words, d.one(refs), (n-i)*step, 4*size+form)
		for range size {
			if form == api.Bytes {
				k.words = append(k.words, d.below(256))
			} else {
				k.words = append(k.words, d.one(all))
			}
		}
	}
	for range d.below(6) {
		k.roots = append(k.roots, d.one(all))
	}
	return k
}

func TestWhatIsWrittenIsReadAndWritten(t *testing.T) {
	d := dice(1)
	for range 20000 {
		k := d.any()
		b := k.want()
		k.holdWritten(t, "any", b)
		k.holdRead(t, "any", b)
		if hold(t, b) != fine {
			t.Error(k)
		}
		if t.Failed() {
			return
		}
	}
}

// wrongNumbers are put into lists in place of others.
func wrongNumbers() []int {
	return []int{
		-1 << 62, 1<<62 - 1, math.MinInt, math.MaxInt, -4, -1, 0, 1, 2, 3, 4, 5, 6, 8, 10, 14, 255, 256, 600, 601, 2000,
		2001, 10001, 10002, leastOdd - 2, mostOdd + 2,
	}
}

func TestWriteOfAnyNumbers(t *testing.T) {
	d := dice(2)
	faults := 0
	for range 20000 {
		k := d.any()
		for range 1 + d.below(2) {
			if n := d.one(wrongNumbers()); len(k.roots) > 0 && d.below(3) == 0 {
				k.roots[d.below(len(k.roots))] = n
			} else {
				k.words[d.below(len(k.words))] = n
			}
		}
		if _, f := reach.Reach(api.Heap{Words: k.words}, k.roots); f != fine {
			faults++
			k.notWritten(t, "a fault", f)
		} else {
			k.holdWritten(t, "no fault", k.want())
		}
		hold(t, k.want())
		if t.Failed() {
			return
		}
	}
	if faults < 2000 || faults > 19000 {
		t.Error("one-sided", faults)
	}
}

// spoilt answers b with some byte another one, away, or with one more.
func (d *dice) spoilt(b []byte) []byte {
	b = slices.Clone(b)
	at := d.below(len(b) + 1)
	c := byte(d.one([]int{0, 1, 2, 3, 4, 126, 127, 128, 129, 254, 255, 'G', 'E', d.below(256)}))
	switch {
	case d.below(3) == 0 || at == len(b):
		return slices.Insert(b, at, slices.Repeat([]byte{c}, 1+d.below(11))...)
	case d.below(3) == 0:
		return slices.Delete(b, at, at+1)
	case d.below(8) == 0:
		return b[:at]
	default:
		b[at] = c
		return b
	}
}

func TestReadOfAnyBytes(t *testing.T) {
	d := dice(3)
	codes := map[api.Errno]int{}
	for range 60000 {
		b := d.spoilt(d.any().want())
		codes[hold(t, b).Code]++
		hold(t, d.spoilt(b))
		if t.Failed() {
			return
		}
	}
	for _, code := range []api.Errno{
		api.OK, api.ErrSize, api.ErrForm, api.ErrKind, api.ErrTwice, api.ErrShort, api.ErrRest,
	} {
		if codes[code] < 500 {
			t.Error("one-sided", code, codes)
		}
	}
	for many := range 14 {
		for range 3000 {
			b := imageOf(make([]byte, many))
			for i := 2; i < len(b); i++ {
				b[i] = byte(d.one([]int{0, 1, 2, 3, 4, 6, 127, 128, 129, 255, d.below(256)}))
			}
			hold(t, b)
			hold(t, b[2:])
		}
	}
}

// All images of few bytes, one after the other: what is read is written as the
// same bytes, and all else is a fault.
func TestAllShortBytes(t *testing.T) {
	few := []byte{0, 1, 2, 3, 4, 5, 6, 127, 128, 129, 255}
	var each func(b []byte, left int)
	each = func(b []byte, left int) {
		hold(t, b)
		if left == 0 || t.Failed() {
			return
		}
		for _, c := range few {
			each(append(slices.Clone(b), c), left-1)
		}
	}
	each([]byte("GE"), 5)
}

func TestManyBytes(t *testing.T) {
	for _, c := range []byte{0, 1, 4, 127, 128, 255, 'G'} {
		hold(t, slices.Repeat([]byte{c}, 1<<20))
		hold(t, imageOf(slices.Repeat([]byte{c}, 1<<20)))
		hold(t, imageOf(as(maxWords), slices.Repeat([]byte{c}, 1<<20)))
		hold(t, imageOf(as(2), allAs(0, 1), as(maxRoots), slices.Repeat([]byte{c}, 1<<20)))
	}
}

// guarded answers a list with room behind its length, and a look at whether
// anything there or in the list has been changed.
func guarded[T int | byte](list []T) ([]T, func() bool) {
	whole := append(slices.Clone(list), 78, 78, 78, 78, 78, 78, 78, 78)
	before := slices.Clone(whole)
	return whole[:len(list)], func() bool { return slices.Equal(whole, before) }
}

// trample changes all that a list holds, also behind its length.
func trample[T int | byte](list []T) {
	list = list[:cap(list)]
	for i := range list {
		list[i] = 99
	}
}

func TestWriteChangesKeepsAndSharesNothing(t *testing.T) {
	all := append(some(), kept{[]int{0, 1}, smalls(601)}, kept{[]int{0, 0}, smalls(3)}, kept{[]int{0, 1}, []int{1, 4}})
	for _, k := range all {
		want, _ := k.write()
		want = slices.Clone(want)
		words, sameWords := guarded(k.words)
		roots, sameRoots := guarded(k.roots)
		b, _ := Write(api.Heap{Words: words}, roots)
		again, _ := Write(api.Heap{Words: words}, roots)
		if !sameWords() || !sameRoots() {
			t.Error(k, "changed", words, roots)
		}
		trample(b)
		trample(words)
		trample(roots)
		if !bytes.Equal(again, want) {
			t.Error(k, "kept, or shared by two answers", again)
		}
	}
}

func TestReadChangesKeepsAndSharesNothing(t *testing.T) {
	for _, k := range some() {
		b, same := guarded(k.want())
		h, roots, _ := Read(b)
		again, others, _ := Read(b)
		if !same() {
			t.Error(k, "changed", b)
		}
		trample(h.Words)
		if !same() || !slices.Equal(roots, k.roots) {
			t.Error(k, "the words are shared", roots)
		}
		trample(roots)
		trample(b)
		if !slices.Equal(again.Words, k.words) || !slices.Equal(others, k.roots) {
			t.Error(k, "kept, or shared by two answers", again, others)
		}
	}
	for _, s := range []string{"", "G", "GF", "GE\x80\x00", "GE\x04\x00\x02\x00\x00", "GE\x04\x02\x02\x00"} {
		b, same := guarded([]byte(s))
		Read(b)
		if !same() {
			t.Error(s, "changed", b)
		}
	}
}

// What lies behind the length is not read: it would make images of these.
func TestBehindTheLength(t *testing.T) {
	b := []byte("GE\x04\x00\x02\x00")
	for n := range b {
		notRead(t, "a shorter list", b[:n], fault(api.ErrShort, n))
	}
	words := []int{0, 2, 0, 1, 4, 0}
	kept{words: words[:2], roots: words[:1]}.holdWritten(t, "shorter lists", []byte("GE\x04\x00\x04\x02\x00"))
	kept{words: words[:5]}.notWritten(t, "a shorter list", fault(api.ErrForm, 2))
}
