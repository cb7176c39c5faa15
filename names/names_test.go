package names

import (
	"math"
	"slices"
	"strings"
	"testing"

	"gesso/api"
	"gesso/heap"
)

// The limits stand here as plain digits, so that a slip in how the program
// works them out is seen.
const (
	maxWords = 2000
	maxSize  = 60
	maxHash  = 10000
)

func heapOf(words ...int) api.Heap { return api.Heap{Words: words} }

// draft is a heap that is written by hand, without the program.
type draft struct{ words []int }

func newDraft() *draft { return &draft{words: []int{0, 1}} }

// lay lays one thing more, and answers its reference.
func (d *draft) lay(class, form int, slots ...int) int {
	o := 2 * len(d.words)
	d.words = append(d.words, class, d.words[1], 4*len(slots)+form)
	d.words = append(d.words, slots...)
	d.words[1]++
	return o
}

// text lays a thing of those bytes.
func (d *draft) text(s string) int {
	slots := make([]int, len(s))
	for i := range slots {
		slots[i] = int(s[i])
	}
	return d.lay(0, api.Bytes, slots...)
}

// table lays a table of those texts, and them ahead of it; "-" is nil.
func (d *draft) table(texts ...string) int {
	slots := make([]int, len(texts))
	for i, s := range texts {
		if s != "-" {
			slots[i] = d.text(s)
		}
	}
	return d.lay(0, api.Plain, slots...)
}

// fill lays things that hold nothing, up to just that many words.
func (d *draft) fill(words int) {
	for words-len(d.words) > 2*(maxSize+3) {
		d.lay(0, api.Weak, make([]int, maxSize)...)
	}
	left := words - len(d.words)
	d.lay(0, api.Plain, make([]int, left/2-3)...)
	d.lay(0, api.Plain, make([]int, words-len(d.words)-3)...)
}

func (d *draft) heap() api.Heap { return api.Heap{Words: slices.Clone(d.words)} }

// withTable answers a heap with a table of those texts, and its reference.
func withTable(texts ...string) (api.Heap, int) {
	d := newDraft()
	d.lay(0, api.Plain, 7)
	o := d.table(texts...)
	return d.heap(), o
}

// noTable asks that Table answers that error, and nothing else.
func noTable(t *testing.T, name string, h api.Heap, size int, want api.Errno) {
	t.Helper()
	if k, o, e := Table(h, size); e != want || len(k.Words) != 0 || o != 0 {
		t.Errorf("%s: Table %d: %v %d %v, want %v", name, size, k.Words, o, e, want)
	}
}

// notInterned asks that Intern answers that error, and nothing else.
func notInterned(t *testing.T, name string, h api.Heap, table int, text string, want api.Errno) {
	t.Helper()
	if k, o, e := Intern(h, table, text); e != want || len(k.Words) != 0 || o != 0 {
		t.Errorf("%s: Intern %d %q: %v %d %v, want %v", name, table, text, k.Words, o, e, want)
	}
}

// notFound asks that Find answers that error, and nothing else.
func notFound(t *testing.T, name string, h api.Heap, table int, text string, want api.Errno) {
	t.Helper()
	if o, e := Find(h, table, text); e != want || o != 0 {
		t.Errorf("%s: Find %d %q: %d %v, want %v", name, table, text, o, e, want)
	}
}

// noTexts asks that All answers that error, and nothing else.
func noTexts(t *testing.T, name string, h api.Heap, table int, want api.Errno) {
	t.Helper()
	if all, e := All(h, table); e != want || len(all) != 0 {
		t.Errorf("%s: All %d: %q %v, want %v", name, table, all, e, want)
	}
}

// interned asks that Intern answers the heap of those words, and o.
func interned(t *testing.T, name string, h api.Heap, table int, text string, words []int, o int) {
	t.Helper()
	if k, got, e := Intern(h, table, text); e != api.OK || got != o || !slices.Equal(k.Words, words) {
		t.Errorf("%s: Intern %d %q: %v %d %v, want %v %d", name, table, text, short(k.Words), got, e, short(words), o)
	}
}

// short answers the front of words, so that what is told stays short.
func short(words []int) []int { return words[:min(len(words), 80)] }

// found asks that Find answers o.
func found(t *testing.T, name string, h api.Heap, table int, text string, o int) {
	t.Helper()
	if got, e := Find(h, table, text); e != api.OK || got != o {
		t.Errorf("%s: Find %d %q: %d %v, want %d", name, table, text, got, e, o)
	}
}

// listed asks that All answers those texts.
func listed(t *testing.T, name string, h api.Heap, table int, want ...string) {
	t.Helper()
	if got, e := All(h, table); e != api.OK || !slices.Equal(got, want) {
		t.Errorf("%s: All %d: %q %v, want %q", name, table, got, e, want)
	}
}

func TestOneTableWordByWord(t *testing.T) {
	h, o, e := Table(heapOf(0, 1), 2)
	if e != api.OK || o != 4 || !slices.Equal(h.Words, []int{0, 2, 0, 1, 8, 0, 0}) {
		t.Fatal(h, o, e)
	}
	listed(t, "new", h, o)
	one := []int{0, 3, 0, 1, 8, 0, 14, 0, 2, 5, 'a'}
	interned(t, "odd", h, o, "a", one, 14)
	two := []int{0, 4, 0, 1, 8, 22, 14, 0, 2, 5, 'a', 0, 3, 9, 'c', 0}
	interned(t, "odd, too", heapOf(one...), o, "c\x00", two, 22)
	interned(t, "again", heapOf(two...), o, "a", two, 14)
	found(t, "first", heapOf(two...), o, "a", 14)
	found(t, "second", heapOf(two...), o, "c\x00", 22)
	listed(t, "in the order of slots", heapOf(two...), o, "c\x00", "a")
	notInterned(t, "full", heapOf(two...), o, "z", api.ErrFull)
	notFound(t, "full", heapOf(two...), o, "z", api.ErrNone)
}

func TestTableOfSizes(t *testing.T) {
	h, _ := withTable("x", "-")
	for _, size := range []int{1, 2, 3, 59, maxSize} {
		k, o, e := Table(h, size)
		want := append(slices.Clone(h.Words), 0, h.Words[1], 4*size)
		want = append(want, make([]int, size)...)
		want[1]++
		if e != api.OK || o != 2*len(h.Words) || !slices.Equal(k.Words, want) {
			t.Error(size, k, o, e)
		}
		listed(t, "new", k, o)
	}
	for _, size := range []int{math.MinInt, -61, -4, -1, 0, maxSize + 1, maxSize + 2, 1 << 40, math.MaxInt} {
		noTable(t, "size", h, size, api.ErrRange)
	}
}

func TestTableWithoutRoom(t *testing.T) {
	for _, size := range []int{1, 7, maxSize} {
		d := newDraft()
		d.fill(maxWords - 3 - size)
		if k, o, e := Table(d.heap(), size); e != api.OK || len(k.Words) != maxWords || o != 2*len(d.words) {
			t.Error("just room", size, len(k.Words), o, e)
		}
		d = newDraft()
		d.fill(maxWords - 3 - size + 1)
		noTable(t, "no room", d.heap(), size, api.ErrFull)
		noTable(t, "range ahead of room", d.heap(), maxSize+1, api.ErrRange)
		noTable(t, "range ahead of room", d.heap(), 0, api.ErrRange)
	}
	noTable(t, "no hash", heapOf(0, maxHash+1), 1, api.ErrFull)
	if k, o, e := Table(heapOf(0, maxHash), 1); e != api.OK || o != 4 || k.Words[1] != maxHash+1 {
		t.Error("last hash", k, o, e)
	}
}

func TestHeapsThatMayNotBe(t *testing.T) {
	long := strings.Repeat("x", maxSize+1)
	spoilt := map[string][]int{
		"nothing":     nil,
		"one word":    {0},
		"word 0":      {1, 1},
		"next hash":   {0, 0},
		"form":        {0, 2, 0, 1, 3},
		"class":       {0, 2, 6, 1, 4, 0},
		"hash":        {0, 2, 0, 2, 4, 0},
		"slot":        {0, 2, 0, 1, 4, 6},
		"byte":        {0, 3, 0, 1, 4, 12, 0, 2, 5, 256},
		"words left":  {0, 2, 0, 1, 4, 0, 0},
		"too many":    make([]int, maxWords+1),
		"hash, twice": {0, 3, 0, 1, 4, 0, 0, 1, 5, 7},
	}
	for name, words := range spoilt {
		for _, o := range []int{4, 0, 1, 3, 12, -4} {
			notInterned(t, name, heapOf(words...), o, "a", api.ErrHeap)
			notInterned(t, name, heapOf(words...), o, long, api.ErrHeap)
			notFound(t, name, heapOf(words...), o, "a", api.ErrHeap)
			notFound(t, name, heapOf(words...), o, long, api.ErrHeap)
			noTexts(t, name, heapOf(words...), o, api.ErrHeap)
		}
		for _, size := range []int{1, 0, -1, maxSize, maxSize + 1} {
			noTable(t, name, heapOf(words...), size, api.ErrHeap)
		}
	}
}

func TestWhatIsNoTable(t *testing.T) {
	d := newDraft()
	bytes := d.text("ab")
	none := d.text("")
	plain := d.lay(0, api.Plain, 0, 0)
	weak := d.lay(0, api.Weak, 0, bytes)
	refs := map[string]int{
		"nil": 0, "small": 9, "small below": -9, "word 1": 2, "below": -4, "a word within": bytes + 2,
		"behind the end": 4000, "least": math.MinInt, "most": math.MaxInt, "odd beyond": 1<<31 + 1,
		"of Bytes":        bytes,
		"of no Bytes":     none,
		"Weak":            weak,
		"no slots":        d.lay(bytes, api.Plain),
		"a small one":     d.lay(0, api.Plain, bytes, 0, 9),
		"small ahead":     d.lay(0, api.Plain, 1, bytes),
		"of a Plain one":  d.lay(0, api.Plain, plain),
		"of a Weak one":   d.lay(0, api.Plain, 0, weak, bytes),
		"of its own":      d.lay(0, api.Plain, 2*len(d.words)),
		"behind many nil": d.lay(0, api.Plain, append(make([]int, 59), plain)...),
	}
	h := d.heap()
	refs["just behind"] = 2 * len(h.Words)
	long := strings.Repeat("x", maxSize+1)
	for name, o := range refs {
		for _, text := range []string{"", "ab", "b", long} {
			notInterned(t, name, h, o, text, api.ErrKind)
			notFound(t, name, h, o, text, api.ErrKind)
		}
		noTexts(t, name, h, o, api.ErrKind)
	}
	listed(t, "all nil", h, plain)
	d.lay(plain, api.Plain, bytes, none)
	listed(t, "of a class", d.heap(), 2*len(h.Words), "ab", "")
}

func TestLengthsOfTexts(t *testing.T) {
	h, o := withTable("-", "-", "-")
	most := strings.Repeat("\xfe", maxSize)
	for _, text := range []string{"", "a", "\x00", "\x80\xff", most[1:], most} {
		notFound(t, "ahead", h, o, text, api.ErrNone)
		k, a, e := Intern(h, o, text)
		x, _ := heap.Look(k, a)
		if e != api.OK || x.Class != 0 || x.Form != api.Bytes || len(x.Slots) != len(text) || a != 2*len(h.Words) {
			t.Errorf("%q: %v %d %v", text, x, a, e)
		}
		found(t, "length", k, o, text, a)
		listed(t, "length", k, o, text)
	}
	for _, text := range []string{most + "a", strings.Repeat(most, 2), strings.Repeat("a", 1<<20)} {
		notInterned(t, "too long", h, o, text, api.ErrSize)
		notFound(t, "too long", h, o, text, api.ErrSize)
	}
	k, o := withTable("a")
	notInterned(t, "too long ahead of full", k, o, most+"a", api.ErrSize)
	notFound(t, "too long ahead of none", k, o, most+"a", api.ErrSize)
}

func TestSeats(t *testing.T) {
	cases := []struct {
		name, text string
		slots      []string
		at         int
	}{
		{"no bytes", "", []string{"-", "-", "-"}, 0},
		{"no bytes, taken", "", []string{"x", "-", "-"}, 1},
		{"no bytes, there", "", []string{"", "-", ""}, 0},
		{"one byte", "\x02", []string{"-", "-", "-"}, 2},
		{"modulo", "\x07", []string{"-", "-", "-"}, 1},
		{"a sum", "\x01\x01", []string{"-", "-", "-"}, 2},
		{"a great byte", "\xff", []string{"-", "-", "-", "-", "-", "-", "-"}, 3},
		{"great bytes", "\xff\xff\xff", []string{"-", "-", "-", "-", "-", "-", "-"}, 2},
		{"runes are bytes", "é", []string{"-", "-", "-", "-", "-"}, (0xc3 + 0xa9) % 5},
		{"last, taken, round", "\x02", []string{"-", "-", "x"}, 0},
		{"round to the one ahead", "\x02", []string{"x", "-", "y"}, 1},
		{"round to itself", "\x02", []string{"x", "\x02", "y"}, 1},
		{"last one of the way", "\x01", []string{"\x01", "a", "b"}, 0},
		{"nil ahead of the text", "\x01", []string{"-", "-", "\x01"}, 1},
		{"nil behind others ahead of the text", "\x01", []string{"\x01", "y", "-"}, 2},
		{"twice", "\x01", []string{"\x01", "x", "\x01"}, 2},
		{"twice from the seat on", "\x00", []string{"\x00", "\x00", "\x00"}, 0},
		{"one sum of bytes", "ba", []string{"ab", "-", "-"}, 1},
		{"ahead of its seat", "\x02", []string{"\x02", "\x02", "-"}, 2},
		{"one slot", "xyz", []string{"-"}, 0},
		{"one slot, there", "xyz", []string{"xyz"}, 0},
		{"full and there", "\x01", []string{"a", "b", "c", "\x01"}, 3},
		{"a longer one", "a", []string{"ab", "-", "-"}, 1},
		{"a shorter one", "\x03\x00", []string{"\x03", "-", "-"}, 1},
		{"none, of seat 0", "\x00", []string{"", "-", "-"}, 1},
	}
	for _, c := range cases {
		h, o := withTable(c.slots...)
		x, _ := heap.Look(h, o)
		if c.slots[c.at] != "-" {
			interned(t, c.name, h, o, c.text, h.Words, x.Slots[c.at])
			found(t, c.name, h, o, c.text, x.Slots[c.at])
			continue
		}
		d := draft{words: slices.Clone(h.Words)}
		a := d.text(c.text)
		d.words[o/2+3+c.at] = a
		interned(t, c.name, h, o, c.text, d.words, a)
		notFound(t, c.name, h, o, c.text, api.ErrNone)
	}
}

func TestFullTables(t *testing.T) {
	for _, slots := range [][]string{{"a"}, {"b", "a"}, {"", "a", "bb"}, {"a", "a", "a", "a"}} {
		h, o := withTable(slots...)
		for _, text := range []string{"\x00", "aa", "c", "b\x00", strings.Repeat("z", maxSize)} {
			notInterned(t, "full", h, o, text, api.ErrFull)
			notFound(t, "full", h, o, text, api.ErrNone)
		}
	}
	// Each slot holds the same sum of bytes, so that every way is as long as
	// can be.
	h, o, _ := Table(heapOf(0, 1), maxSize)
	for i := range maxSize {
		text := string([]byte{byte(i), byte(200 - i)})
		k, a, e := Intern(h, o, text)
		if e != api.OK {
			t.Fatal(i, e)
		}
		x, _ := heap.Look(k, o)
		if x.Slots[(200+i)%maxSize] != a {
			t.Fatal(i, x.Slots)
		}
		h = k
	}
	notInterned(t, "full", h, o, "\x64\x63\x01", api.ErrFull)
	notFound(t, "full", h, o, "\x64\x63\x01", api.ErrNone)
	found(t, "full", h, o, "\x00\xc8", 2*(2+3+maxSize))
}

func TestInternWithoutRoom(t *testing.T) {
	for _, text := range []string{"", "a", strings.Repeat("b", maxSize)} {
		d := newDraft()
		o := d.table("-", "there", "-")
		d.fill(maxWords - 3 - len(text))
		k, a, e := Intern(d.heap(), o, text)
		if e != api.OK || len(k.Words) != maxWords || a != 2*len(d.words) {
			t.Error("just room", len(k.Words), a, e)
		}
		d = newDraft()
		o = d.table("-", "there", "-")
		d.fill(maxWords - 3 - len(text) + 1)
		notInterned(t, "no room", d.heap(), o, text, api.ErrFull)
		notFound(t, "no room", d.heap(), o, text, api.ErrNone)
	}
	d := newDraft()
	o := d.table("the", "-", "-")
	d.fill(maxWords)
	interned(t, "no room, there", d.heap(), o, "the", d.words, 4)
	found(t, "no room, there", d.heap(), o, "the", 4)
	notInterned(t, "size ahead of room", d.heap(), o, strings.Repeat("b", maxSize+1), api.ErrSize)
	notInterned(t, "kind ahead of room", d.heap(), 4, "a", api.ErrKind)

	h, o := withTable("-", "-")
	h.Words[1] = maxHash + 1
	notInterned(t, "no hash", h, o, "a", api.ErrFull)
	h.Words[1] = maxHash
	k, a, e := Intern(h, o, "a")
	if x, _ := heap.Look(k, a); e != api.OK || x.Hash != maxHash || k.Words[1] != maxHash+1 {
		t.Error("last hash", x, e)
	}
	interned(t, "no hash, there", k, o, "a", k.Words, a)
}

func TestAll(t *testing.T) {
	cases := []struct{ slots, want []string }{
		{[]string{"-"}, nil},
		{[]string{"-", "-", "-"}, nil},
		{[]string{"a"}, []string{"a"}},
		{[]string{""}, []string{""}},
		{[]string{"-", "z", "-", "b", "a", "-"}, []string{"z", "b", "a"}},
		{[]string{"same", "-", "same", "same"}, []string{"same", "same", "same"}},
		{[]string{"\xff\x00", "é", "\n"}, []string{"\xff\x00", "é", "\n"}},
	}
	for _, c := range cases {
		h, o := withTable(c.slots...)
		listed(t, "slots", h, o, c.want...)
	}
	// Two slots may hold the same thing, and one table the texts of another.
	d := newDraft()
	a := d.text("a")
	b := d.lay(a, api.Bytes, 'b')
	o := d.lay(0, api.Plain, b, 0, a, b, a)
	other := d.lay(o, api.Plain, a, b)
	listed(t, "the same thing", d.heap(), o, "b", "a", "b", "a")
	listed(t, "another table", d.heap(), other, "a", "b")
	found(t, "of a class", d.heap(), other, "b", b)
	interned(t, "of a class", d.heap(), other, "b", d.words, b)
}

// dice are numbers from a fixed rule.
type dice uint64

func (d *dice) below(n int) int {
	*d = *d*6364136223846793005 + 1442695040888963407
	return int(uint64(*d)>>33) % n
}

// text answers a short text of few letters, some of them above 127.
func (d *dice) text(most int) string {
	b := make([]byte, d.below(most+1))
	for i := range b {
		b[i] = "abc\x00\xff\x80"[d.below(6)]
	}
	return string(b)
}

// wantEnd says over again in which slot a search ends, or -1. The slots stand
// twice in one row, so that there is no way round in it.
func wantEnd(slots []string, text string) int {
	begin := 0
	for _, b := range []byte(text) {
		begin = (begin + int(b)) % len(slots)
	}
	row := slices.Concat(slots, slots)
	for i := begin; i < begin+len(slots); i++ {
		if row[i] == "-" || row[i] == text {
			return i % len(slots)
		}
	}
	return -1
}

func TestAgainstTheChapter(t *testing.T) {
	d := dice(7)
	for range 3000 {
		slots := make([]string, 1+d.below(6))
		for i := range slots {
			slots[i] = "-"
			if d.below(3) > 0 {
				slots[i] = d.text(3)
			}
		}
		h, o := withTable(slots...)
		x, _ := heap.Look(h, o)
		text := d.text(3)
		at := wantEnd(slots, text)
		switch {
		case at < 0:
			notInterned(t, "dice", h, o, text, api.ErrFull)
			notFound(t, "dice", h, o, text, api.ErrNone)
		case slots[at] == "-":
			k := draft{words: slices.Clone(h.Words)}
			a := k.text(text)
			k.words[o/2+3+at] = a
			interned(t, "dice", h, o, text, k.words, a)
			notFound(t, "dice", h, o, text, api.ErrNone)
		default:
			interned(t, "dice", h, o, text, h.Words, x.Slots[at])
			found(t, "dice", h, o, text, x.Slots[at])
		}
		listed(t, "dice", h, o, slices.DeleteFunc(slots, func(s string) bool { return s == "-" })...)
		if t.Failed() {
			return
		}
	}
}

// What was interned is found at its thing, whatever came behind it, and no two
// texts have one thing.
func TestWhatWasInternedIsFound(t *testing.T) {
	d := dice(8)
	for range 60 {
		h, o, _ := Table(heapOf(0, 1), 1+d.below(12))
		other, p, _ := Table(h, 3)
		h = other
		given := map[string]int{}
		for range 25 {
			text := d.text(4)
			k, a, e := Intern(h, o, text)
			before, known := given[text]
			switch {
			case e == api.ErrFull:
				if known {
					t.Fatalf("%q was there", text)
				}
				continue
			case e != api.OK || known && (a != before || !slices.Equal(k.Words, h.Words)):
				t.Fatalf("%q: %d %v, was %d", text, a, e, before)
			}
			given[text] = a
			h = k
			if d.below(3) == 0 { // another table does not disturb
				if k, _, e := Intern(h, p, d.text(4)); e == api.OK {
					h = k
				}
			}
			unlike := map[int]string{}
			for s, a := range given {
				found(t, "later", h, o, s, a)
				if twin, twice := unlike[a]; twice {
					t.Fatalf("%q and %q have one thing", s, twin)
				}
				unlike[a] = s
			}
			if all, e := All(h, o); e != api.OK || len(all) != len(given) {
				t.Fatal(all, e, given)
			}
		}
	}
}

// guarded answers words with room behind their length, and a look at whether
// anything there or in the words has been changed.
func guarded(words []int) (api.Heap, func() bool) {
	whole := append(slices.Clone(words), 77, 77, 77, 77, 77, 77, 77, 77)
	before := slices.Clone(whole)
	return api.Heap{Words: whole[:len(words)]}, func() bool { return slices.Equal(whole, before) }
}

// trample changes all that a list holds, also behind its length.
func trample(list []int) {
	list = list[:cap(list)]
	for i := range list {
		list[i] = -99
	}
}

func TestNothingIsChangedKeptOrShared(t *testing.T) {
	plain, o := withTable("x", "-", "y", "-")
	h, same := guarded(plain.Words)
	made, _, _ := Table(h, 2)
	there, _, _ := Intern(h, o, "x")
	anew, a, _ := Intern(h, o, "z")
	found(t, "guarded", h, o, "x", 12)
	all, _ := All(h, o)
	again, _ := All(h, o)
	if !same() {
		t.Fatal("changed", h)
	}
	for _, k := range []api.Heap{made, there, anew} {
		if len(k.Words) < len(h.Words) {
			t.Fatal("nothing came", k)
		}
		trample(k.Words)
		if !same() {
			t.Fatal("shared", h)
		}
	}
	all[0], all[1] = "changed", "changed"
	if !slices.Equal(again, []string{"x", "y"}) {
		t.Error("two answers share", again)
	}
	trample(h.Words)
	if _, b, e := Intern(plain, o, "z"); e != api.OK || a != b {
		t.Error("kept", b, e)
	}
	listed(t, "kept", plain, o, "x", "y")
}

// holds asks of all four that they end and that an error comes alone.
func holds(t *testing.T, words []int, n int, text string) {
	t.Helper()
	h, same := guarded(words)
	may := heap.Check(h).Code == api.OK
	right := func(e api.Errno, zero bool) bool {
		return (e == api.ErrHeap) == !may && (e == api.OK || zero)
	}
	k, o, e := Table(h, n)
	if !right(e, len(k.Words) == 0 && o == 0) || e == api.OK && heap.Check(k).Code != api.OK {
		t.Error("Table", words, n, k, o, e)
	}
	k, o, e = Intern(h, n, text)
	if !right(e, len(k.Words) == 0 && o == 0) || e == api.OK && heap.Check(k).Code != api.OK {
		t.Error("Intern", words, n, k, o, e)
	}
	p, g := Find(h, n, text)
	if !right(g, p == 0) || g == api.OK && (p != o || e != api.OK) {
		t.Error("Find", words, n, p, g)
	}
	all, e := All(h, n)
	if !right(e, len(all) == 0) || g == api.OK && !slices.Contains(all, text) {
		t.Error("All", words, n, all, e)
	}
	if !same() {
		t.Error("changed", words)
	}
}

func TestArbitraryHeapsNumbersAndTexts(t *testing.T) {
	numbers := []int{
		math.MinInt, math.MinInt + 1, -1 << 40, -5, -4, -1, 0, 1, 2, 3, 4, 5, 6, 7, 8, 9, 12, 14, 16, 22, 26, 255, 256,
		59, 60, 61, 62, 239, 240, 241, 244, 10000, 10001, 10002, 1 << 31, 1<<31 + 1, math.MaxInt - 1, math.MaxInt,
	}
	d := dice(9)
	for range 4000 {
		good := newDraft()
		for range 1 + d.below(3) {
			good.table([]string{d.text(2), "-", d.text(3)}[:1+d.below(3)]...)
		}
		words := good.words
		for range d.below(3) {
			words[d.below(len(words))] = numbers[d.below(len(numbers))]
		}
		for range 4 {
			holds(t, words, numbers[d.below(len(numbers))], d.text(5))
			holds(t, words, 2*d.below(len(words)), d.text(2))
			holds(t, words, 2*d.below(len(words)), strings.Repeat(d.text(1), 58+d.below(5)))
		}
		if t.Failed() {
			return
		}
	}
}

func TestFullHeapsOfManyThings(t *testing.T) {
	d := newDraft()
	o := d.table(append(slices.Repeat([]string{"a"}, maxSize-1), "-")...)
	for len(d.words)+3 <= maxWords-4 {
		d.lay(o, api.Bytes)
	}
	h := d.heap()
	k, a, e := Intern(h, o, "b")
	if e != api.OK || a != 2*len(h.Words) {
		t.Fatal(a, e)
	}
	found(t, "full", k, o, "b", a)
	if k.Words[o/2+3+maxSize-1] != a || heap.Check(k).Code != api.OK {
		t.Error(k.Words[:80])
	}
}
