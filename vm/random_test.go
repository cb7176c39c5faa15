package vm

import (
	"slices"
	"strings"
	"testing"

	"gesso/api"
	"gesso/check"
	"gesso/model"
)

// dice throws numbers, the same ones in each run.
type dice uint64

func (d *dice) throw(n int) int {
	*d = *d*6364136223846793005 + 1442695040888963407
	return int(uint64(*d) >> 33 % uint64(n))
}

// one answers one of those words, its blanks written as _.
func (d *dice) one(words string) string {
	all := strings.Fields(words)
	return strings.ReplaceAll(all[d.throw(len(all))], "_", " ")
}

// numbers answers some numbers from least on, below most.
func (d *dice) numbers(many, least, most int) []int {
	all := make([]int, d.throw(many))
	for i := range all {
		all[i] = least + d.throw(most-least)
	}
	return all
}

// hoarder writes programs that make many things, hold some of them in locals,
// in slots and in what is being reckoned, and let others go. The first letter
// of a local tells what it is, as long as it was not swapped: l a link or nil,
// g a gate, n a number.
type hoarder struct {
	dice
	slips int // one of so many exprs is of another kind
	next  int
	names []string
}

// links are the classes of the programs that are written: things that hold
// others.
const links = "class e{to on(o){return self;}to at(n){return self;}to n(){return 0;}}" +
	"class l{slot next;slot n;to on(o){next=o;return self;}to set(v){n=v;return self;}to n(){if(n==nil){return 1;}return n;}" +
	"to at(n){if(n<1){return self;}if(next==nil){return self;}return next.at(n-1);}" +
	"to grow(k){if(0<k){return (new l).on(next).grow(k-1);}return new m;}" +
	"to row(k,a,b){if(k<1){return self.on(b);}return self.row(k-1,new l,a).set(k);}" +
	"to turn(o){var was=self;swap(self,o);if(was==self){return o;}return self;}" +
	"to spawn(g){fork{var mine=(new m).on(self);signal(g);wait(g);print(mine.n());}return self;}}" +
	"class m:l{slot other;slot more;to on(o){other=next;more=o;next=more;return self;}to n(){if(other==nil){return 2;}return other.n();}}"

func (h *hoarder) local(letter, other string) string {
	all := ""
	for _, name := range h.names {
		if name[:1] == letter {
			all += " " + name
		}
	}
	if all == "" {
		return other
	}
	return h.one(all)
}

func (h *hoarder) link(high int) string {
	if h.throw(h.slips) == 0 {
		return h.one("nil gate 3 new_e " + h.local("n", "0"))
	}
	if high > 0 {
		switch h.throw(9) {
		case 0:
			return "(" + h.link(high-1) + ").on(" + h.link(high-1) + ")"
		case 1:
			return "(" + h.link(high-1) + ").at(" + h.number(high-1) + ")"
		case 2:
			return "(" + h.link(high-1) + ").set(" + h.number(high-1) + ")"
		case 3:
			return "(" + h.link(high-1) + ").row(" + h.one("1 2 3 9") + "," + h.link(high-1) + "," + h.link(high-1) + ")"
		case 4:
			return "(" + h.link(high-1) + ").turn(" + h.link(high-1) + ")"
		case 5:
			return "(" + h.link(high-1) + ").grow(" + h.one("1 2 5 39") + ")"
		}
	}
	if h.throw(3) == 0 {
		return h.one("(new_l) (new_m) (new_e)")
	}
	return h.local("l", "(new m)")
}

func (h *hoarder) number(high int) string {
	if h.throw(h.slips) == 0 {
		return h.one("nil 1073741823 new_l")
	}
	if high > 0 {
		switch h.throw(5) {
		case 0:
			return "(" + h.link(high-1) + ").n()"
		case 1:
			return "(" + h.number(high-1) + h.one("+ - * < ==") + h.number(high-1) + ")"
		case 2:
			return "(" + h.link(high-1) + "==" + h.link(high-1) + ")"
		}
	}
	return h.local("n", h.one("0 1 2 5"))
}

// declared writes a var of a kind, and what is in it.
func (h *hoarder) declared() string {
	letter := h.one("l l l g n")
	expr := "gate"
	switch letter {
	case "l":
		expr = h.link(2)
	case "n":
		expr = h.number(2)
	}
	name := letter + digits(h.next)
	h.next++
	h.names = append(slices.Clip(h.names), name)
	return "var " + name + "=" + expr + ";"
}

func (h *hoarder) block(high, most int) string {
	names := h.names
	text := "{"
	for range 1 + h.throw(most) {
		text += h.statement(high)
	}
	h.names = names
	return text + "}"
}

func (h *hoarder) statement(high int) string {
	switch k := h.throw(16); {
	case k < 3 && high > 0:
		i := "i" + digits(h.next)
		h.next++
		return "var " + i + "=0;while(" + i + "<" + h.one("2 5 9 30 299 301") + "){" + i + "=" + i + "+1;" + h.block(high-1, 2)[1:]
	case k == 3 && high > 0:
		return "if(" + h.number(1) + ")" + h.block(high-1, 3) + "else" + h.block(high-1, 3)
	case k < 6 && high > 0:
		return "fork" + h.block(high-1, 4)
	case k < 8:
		return h.declared()
	case k == 8:
		return "swap(" + h.link(1) + "," + h.link(1) + ");"
	case k == 9:
		return h.one("signal signal wait") + "(" + h.local("g", "gate") + ");"
	case k == 10:
		return "(" + h.link(1) + ").spawn(" + h.local("g", "gate") + ");"
	case k == 11:
		return "print(" + h.number(2) + ");"
	case k == 12:
		return h.link(3) + ";"
	}
	name := h.local("l", "")
	if name == "" {
		return h.declared()
	}
	return name + "=" + h.link(2) + ";"
}

func (h *hoarder) program() string {
	h.names, h.next = []string{"l0", "g0"}, 1
	text := links + "main{var l0=new l;var g0=gate;"
	for range 3 + h.throw(6) {
		text += h.statement(3)
	}
	return text + "}"
}

// agreed asks that Run and Shown tell what is told when it is said over again,
// and answers how the run ends, or 0 of what is refused.
func agreed(t *testing.T, text string, script, when []int, room int, picks ...int) int {
	t.Helper()
	r, f := Run(text, script, when, room)
	n, fault := check.Check(text)
	if fault == (api.Fault{}) && (room < minRoom || room > maxWords || room < 6+4*(len(n.Kids)-1)) {
		fault = api.Fault{Code: api.ErrSize}
	}
	if f != fault {
		t.Fatalf("%q, room %d: %v, want %v", short(text), room, f, fault)
	}
	if f != (api.Fault{}) {
		h, roots, again := Shown(text, script, when, room, 3)
		if ends(r) != "none 0 0" || again != f || len(h.Words)+len(roots) != 0 {
			t.Fatalf("%q, room %d: %v %v %v", short(text), room, r, h, roots)
		}
		return 0
	}
	if want := saidOver(text, script, when, room, maxMarks+1).trace; ends(r) != ends(want) {
		t.Fatalf("%q, script %v, collected at %v, room %d:\n%s, want\n%s", text, script, when, room, ends(r), ends(want))
	}
	byNodes(t, text, script, r)
	for _, at := range append(picks, r.Steps) {
		words, held := saidOver(text, script, when, room, at).heap()
		h, roots := seen(t, text, script, when, room, at)
		rest := slices.Sorted(slices.Values(roots[len(n.Kids):]))
		if !slices.Equal(h.Words, words) || !slices.Equal(slices.Compact(rest), held) {
			t.Fatalf("%q, script %v, collected at %v, room %d, behind %d:\n%v %v, want\n%v %v", text, script, when, room, at, h, roots, words, held)
		}
	}
	return r.Status
}

// byNodes asks that r is what the run by nodes tells, up to where it is Full.
func byNodes(t *testing.T, text string, script []int, r api.Trace) {
	t.Helper()
	want, _ := model.Run(text, script)
	if r.Status != api.Full {
		if ends(r) != ends(want) {
			t.Fatalf("%q, script %v:\n%s, by nodes\n%s", text, script, ends(r), ends(want))
		}
		return
	}
	if r.Steps > want.Steps || r.Made >= want.Made || len(r.Prints) > len(want.Prints) || !slices.Equal(r.Prints, want.Prints[:len(r.Prints)]) {
		t.Fatalf("%q, script %v:\n%s, by nodes\n%s", text, script, ends(r), ends(want))
	}
}

func TestRunsSaidOverAgain(t *testing.T) {
	all := map[int]int{}
	for seed, slips := range []int{10, 60, 100000} {
		h := &hoarder{dice: dice(seed + 13), slips: slips}
		for range 90 {
			text := h.program()
			script := h.numbers(60, -9, 9)
			for range 3 {
				room := minRoom + h.throw(1+h.throw(1901))
				when := h.numbers(1+h.throw(400), -3, 1+h.throw(1504))
				all[agreed(t, text, script, when, room, h.throw(9), h.throw(150), h.throw(1500))]++
			}
		}
	}
	for _, status := range []int{api.Done, api.Stuck, api.Fell, api.Endless, api.Out, api.Full} {
		if all[status] < 5 {
			t.Error(all)
		}
	}
}

// TestSameWhenever: when it is collected does not tell, nor does more room,
// unless a run is Full.
func TestSameWhenever(t *testing.T) {
	full := 0
	h := &hoarder{dice: 1313, slips: 200}
	for range 40 {
		text, script := h.program(), h.numbers(30, 0, 99)
		last := ""
		for _, room := range []int{100, 101, 117, 150, 260, 500, 1999, 2000} {
			want, _ := Run(text, script, nil, room)
			ran(t, text, script, room, ends(want))
			if want.Status == api.Full {
				full++
			}
			if last != "" && last != ends(want) && !strings.HasPrefix(last, "full") {
				t.Fatalf("%q, script %v, room %d: %s, with less %s", text, script, room, ends(want), last)
			}
			last = ends(want)
		}
	}
	if full < 10 {
		t.Error(full)
	}
}

// TestNeverFull has as much room as all that is made takes.
func TestNeverFull(t *testing.T) {
	h := &hoarder{dice: 131, slips: 100}
	tried := 0
	for range 200 {
		text, script := h.program(), h.numbers(30, 0, 99)
		w := saidOver(text, script, nil, 1<<40, maxMarks+1)
		room := max(w.words(), minRoom)
		if room > maxWords {
			continue
		}
		tried++
		ran(t, text, script, room, ends(w.trace))
	}
	if tried < 40 {
		t.Error(tried)
	}
}

// TestWrongInputs has bytes, numbers and rooms of all kinds, and pieces of
// texts.
func TestWrongInputs(t *testing.T) {
	h := &hoarder{dice: 5, slips: 9}
	wild := func() int { return (h.throw(1<<30) - 1<<29) << h.throw(40) }
	row := func() []int {
		all := make([]int, h.throw(9))
		for i := range all {
			all[i] = wild()
		}
		return all
	}
	for range 200 {
		text := []byte(h.program())
		agreed(t, string(text[:h.throw(len(text))]), row(), row(), h.throw(2100), wild())
		agreed(t, string(text[h.throw(len(text)):]), row(), row(), wild(), wild())
		agreed(t, string(text), row(), row(), wild(), wild())
		agreed(t, string(text), row(), row(), 90+h.throw(20), wild(), wild(), wild())
		for range 1 + h.throw(3) {
			text[h.throw(len(text))] = "10;t(+}\x00\xff #l.e"[h.throw(14)]
		}
		agreed(t, string(text), row(), row(), h.throw(2100), wild())
	}
	for b := range 256 {
		agreed(t, string([]byte{byte(b)}), []int{b}, []int{b}, b, b)
		agreed(t, "main{print(1"+string([]byte{byte(b)})+"2);gate;}", []int{-b}, []int{-b}, 10*b, -b)
	}
	for _, text := range []string{"", times("main{", 900), times("x", 1<<20), "main{" + times("-", 3990) + "1;}", times("class a{}", 400) + "main{}"} {
		if agreed(t, text, nil, nil, 500) != 0 {
			t.Errorf("%q is a program", short(text))
		}
	}
	text := "main{fork{while(1){print(gate);}}fork{while(1){print(2);}}while(1){print(gate);}}"
	many := make([]int, 1<<20)
	for i := range many {
		many[i] = i - 1<<19
	}
	r, f := Run(text, many, many, minRoom)
	want, _ := model.Run(text, many)
	if f != (api.Fault{}) || ends(r) != ends(want) {
		t.Error(ends(r), f)
	}
}
