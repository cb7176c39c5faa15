package model

import (
	"slices"
	"strconv"
	"strings"
	"testing"

	"gesso/api"
	"gesso/check"
)

// dice throws numbers, the same ones in each run.
type dice uint64

func (d *dice) throw(n int) int {
	*d = *d*6364136223846793005 + 1442695040888963407
	return int(uint64(*d) >> 33 % uint64(n))
}

// one answers one of those texts.
func (d *dice) one(all ...string) string { return all[d.throw(len(all))] }

// script answers one of some numbers.
func (d *dice) script() []int {
	all := make([]int, d.throw(40))
	for i := range all {
		all[i] = d.throw(41) - 20
	}
	return all
}

// writer writes programs. The first letter of a local tells what it is, unless
// it was swapped: n a number, t a thing, g a gate.
type writer struct {
	dice
	slips  int // one of so many values is of any kind
	next   int // the number of the next local
	names  []string
	slots  []string
	method bool
	fork   bool
}

// local answers a local of that letter, or another, if there is none.
func (w *writer) local(letter, other string) string {
	var all []string
	for _, name := range w.names {
		if name[:1] == letter {
			all = append(all, name)
		}
	}
	if len(all) == 0 {
		return other
	}
	return w.one(all...)
}

func (w *writer) any(high int) string {
	switch w.throw(7) {
	case 0:
		return w.thing(high)
	case 1:
		return w.local("g", "gate")
	case 2:
		return "nil"
	case 3:
		if len(w.slots) > 0 {
			return w.one(w.slots...)
		}
	}
	return w.number(high)
}

func (w *writer) thing(high int) string {
	switch k := w.throw(9); {
	case w.throw(w.slips) == 0:
		return w.any(high)
	case k == 0 && w.method:
		return "self"
	case k == 1 && high > 0:
		return "(" + w.thing(high-1) + ")." + w.one("me()", "me("+w.any(high-1)+")")
	case k == 2 && w.throw(w.slips) < 3:
		return "(new d)"
	}
	return w.local("t", "(new "+w.one("a", "b", "c")+")")
}

func (w *writer) number(high int) string {
	if w.throw(w.slips) == 0 {
		return w.any(high)
	}
	if high > 0 {
		switch w.throw(9) {
		case 0:
			return "(" + w.number(high-1) + w.one("+", "-", "*", "<", "==") + w.number(high-1) + ")"
		case 1:
			return w.one("-", "!") + w.number(high-1)
		case 2:
			return "(" + w.any(high-1) + "==" + w.any(high-1) + ")"
		case 3:
			return w.thing(high-1) + ".num(" + w.any(high-1) + "," + w.number(high-1) + ")"
		case 4:
			return w.thing(high-1) + ".num()"
		}
	}
	if w.throw(w.slips) < 3 {
		return w.one("1073741823", "40000", "(-1073741823-1)")
	}
	return w.local("n", w.one("0", "1", "2", "3"))
}

// block writes one: its locals are gone behind it.
func (w *writer) block(high int) string {
	names := w.names
	s := "{"
	for range 1 + w.throw(4) {
		s += w.statement(high)
	}
	w.names = names
	return s + "}"
}

func (w *writer) declared() string {
	letter := w.one("n", "t", "g")
	expr := map[string]string{"n": w.number(2), "t": w.thing(2), "g": w.local("g", "gate")}[letter]
	if w.throw(2) == 0 && letter == "g" {
		expr = "gate"
	}
	name := letter + strconv.Itoa(w.next)
	w.next++
	w.names = append(slices.Clip(w.names), name)
	return "var " + name + "=" + expr + ";"
}

func (w *writer) statement(high int) string {
	if high > 0 {
		switch w.throw(14) {
		case 0:
			return "if(" + w.number(1) + ")" + w.block(high-1)
		case 1:
			return "if(" + w.number(1) + ")" + w.block(high-1) + "else" + w.block(high-1)
		case 2:
			return w.loop(high)
		case 3, 4:
			fork := w.fork
			w.fork = true
			s := "fork" + w.block(high-1)
			w.fork = fork
			return s
		case 5:
			return w.declared() + w.shadow(high)
		}
	}
	switch k := w.throw(13); {
	case k < 2:
		return w.declared()
	case k == 2:
		return "wait(" + w.local("g", "gate") + ");"
	case k == 3:
		return "signal(" + w.local("g", "gate") + ");"
	case k < 6:
		other := w.thing(1)
		if w.throw(w.slips) < 5 {
			other = w.local("g", "gate")
		}
		return w.one("swap("+w.thing(1)+","+other+");", "swap("+other+","+w.thing(1)+");", "swap("+w.local("g", "gate")+","+w.local("g", "gate")+");")
	case k == 6 && len(w.slots) > 0:
		return w.one(w.slots...) + "=" + w.any(2) + ";"
	case k == 7 && w.method && !w.fork:
		return "return " + w.any(2) + ";"
	case k == 8:
		if name := w.local(w.one("n", "t", "g"), ""); name != "" {
			return name + "=" + map[string]string{"n": w.number(2), "t": w.thing(2), "g": "gate"}[name[:1]] + ";"
		}
	}
	return w.one("print("+w.any(2)+");", "print("+w.thing(1)+");", w.thing(2)+".num("+w.any(1)+","+w.number(1)+");", w.any(2)+";")
}

// loop writes a while that ends some time, or perhaps does not.
func (w *writer) loop(high int) string {
	if w.throw(8) == 0 {
		return "while(" + w.number(2) + ")" + w.block(high-1)
	}
	i := "i" + strconv.Itoa(w.next)
	w.next++
	times := w.one("1", "3", "5", "9", "9", "20", "298", "299", "300")
	body := "{}"
	if w.throw(4) > 0 {
		body = w.block(high - 1)
	}
	return "var " + i + "=0;while(" + i + "<" + times + "){" + i + "=" + i + "+1;" + body[1:]
}

// shadow writes a block with a local of the name of one around it.
func (w *writer) shadow(high int) string {
	name := w.names[len(w.names)-1]
	expr := map[string]string{"n": w.number(2), "t": w.thing(2), "g": "gate"}[name[:1]]
	return "if(1){print(" + name + ");var " + name + "=" + expr + ";" + w.block(high - 1)[1:] + "print(" + name + ");"
}

// inMethod writes a method, its block having those names.
func (w *writer) inMethod(head, tail string, names ...string) string {
	w.names, w.method = names, true
	block := w.block(1)
	w.names, w.method = nil, false
	return "to " + head + strings.TrimSuffix(block, "}") + tail + "}"
}

func (w *writer) class(head string, own ...string) string {
	s := "class " + head + "{"
	for _, name := range own {
		s += "slot " + name + ";"
	}
	w.slots = append(slices.Clip(w.slots), own...)
	if head == "a" || w.throw(2) == 0 {
		s += w.inMethod("num(t0,n0)", "return n0;", "t0", "n0")
	}
	if head == "a" || w.throw(2) == 0 {
		s += w.inMethod("num()", "return 1;")
	}
	return s + "to me(){return self;}to me(t0){swap(self,t0);" + w.one("return self;", "return t0;", "print(self);") + "}}"
}

func (w *writer) program() string {
	w.names, w.slots, w.next = nil, nil, 3
	s := w.class("a", "x", "y")
	slots := w.slots
	s += w.class("b:a", "z")
	w.slots = slots
	s += w.class("c:a")
	w.slots = nil
	s += "class d{}"
	w.names = []string{"t0", "t1", "t2", "g0", "n0"}
	w.next = 3
	s += "main{var t0=new a;var t1=new " + w.one("a", "b", "c") + ";var t2=new b;var g0=gate;var n0=5;"
	for range 2 + w.throw(4) {
		s += w.statement(3)
	}
	return s + "}"
}

// agreed asks that Run tells what is told when it is said over again, and
// answers the status, or 0 of a text that is no program.
func agreed(t *testing.T, text string, script []int) int {
	t.Helper()
	given := slices.Clone(script)
	r, f := Run(text, script)
	if !slices.Equal(given, script) {
		t.Errorf("%q: script %v is now %v", text, given, script)
	}
	n, fault := check.Check(text)
	var want api.Trace
	if fault == (api.Fault{}) {
		want = saidOver(n, given)
	}
	if f != fault || r.Status != want.Status || r.Steps != want.Steps || r.Made != want.Made || !slices.Equal(r.Prints, want.Prints) {
		t.Fatalf("%q %v:\n%v %v, want\n%v %v", text, script, r, f, want, fault)
	}
	return r.Status
}

func TestRunsSaidOverAgain(t *testing.T) {
	ends := map[int]int{}
	for seed, slips := range []int{8, 30, 100, 1000, 100000} {
		w := &writer{dice: dice(seed + 11), slips: slips}
		for range 400 {
			text := w.program()
			ends[agreed(t, text, nil)]++
			ends[agreed(t, text, w.script())]++
			ends[agreed(t, text, w.script())]++
		}
	}
	for _, status := range []int{api.Done, api.Stuck, api.Fell, api.Endless, api.Out} {
		if ends[status] < 50 {
			t.Error(ends)
		}
	}
}

// TestWrongInputs has texts with bytes that are any, pieces of texts, and
// scripts of any numbers.
func TestWrongInputs(t *testing.T) {
	w := &writer{dice: 5, slips: 20}
	for range 400 {
		text := []byte(w.program())
		agreed(t, string(text[:w.throw(len(text))]), w.script())
		agreed(t, string(text[w.throw(len(text)):]), w.script())
		for range 1 + w.throw(3) {
			text[w.throw(len(text))] = w.one("1", "0", ";", "t", "(", "+", "}", "\x00", "\xff", " ", "#")[0]
		}
		script := w.script()
		for i := range script {
			script[i] *= 1 << w.throw(64)
		}
		agreed(t, string(text), script)
	}
	for b := range 256 {
		agreed(t, string([]byte{byte(b)}), []int{b})
		agreed(t, "main{print(1"+string([]byte{byte(b)})+"2);}", []int{-b})
	}
	for _, text := range []string{times("main{", 900), times("x", 1<<20), "main{" + times("-", 3990) + "1;}", times("class a{}", 400) + "main{}"} {
		agreed(t, text, nil)
	}
	long := make([]int, 1<<20)
	for i := range long {
		long[i] = i - 1<<19
	}
	agreed(t, "main{fork{while(1){print(1);}}fork{while(1){print(2);}}while(1){print(3);}}", long)
}
