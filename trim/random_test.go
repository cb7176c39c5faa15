package trim

import (
	"slices"
	"strings"
	"testing"
)

// dice throws numbers, the same ones in each run.
type dice uint64

func (d *dice) throw(n int) int {
	*d = *d*6364136223846793005 + 1442695040888963407
	return int(uint64(*d) >> 33 % uint64(n))
}

// one answers one of those words.
func (d *dice) one(words string) string {
	all := strings.Fields(words)
	return all[d.throw(len(all))]
}

// script answers one of some numbers.
func (d *dice) script() []int {
	all := make([]int, d.throw(60))
	for i := range all {
		all[i] = d.throw(41) - 20
	}
	return all
}

// scribe writes programs of any kind, in which few names stand for much. Calls
// in them are few, so that many methods go.
type scribe struct {
	dice
	classes []string
	slots   []string // of the class that is being written, in all
	known   []string // the names that are there
	method  bool
	fork    bool
}

func (s *scribe) expr(high int) string {
	if high > 0 {
		switch s.throw(12) {
		case 0:
			return s.call(high)
		case 1:
			return "(" + s.expr(high-1) + s.one("+ - * < ==") + s.expr(high-1) + ")"
		case 2:
			return s.one("- !") + s.expr(high-1)
		}
	}
	switch k := s.throw(12); {
	case k < 2 && s.method:
		return "self"
	case k < 6 && len(s.classes) > 0:
		return "new " + s.one(strings.Join(s.classes, " "))
	case k < 10 && len(s.known) > 0:
		return s.one(strings.Join(s.known, " "))
	}
	return s.one("nil gate 7")
}

func (s *scribe) call(high int) string {
	name := s.throw(3)
	count := name
	if s.throw(6) == 0 {
		count = s.throw(3)
	}
	exprs := make([]string, count)
	for i := range exprs {
		exprs[i] = s.expr(high - 1)
	}
	return "(" + s.expr(high-1) + ")." + "fgh"[name:name+1] + "(" + strings.Join(exprs, ",") + ")"
}

// block writes one, whose own list has those names already.
func (s *scribe) block(own []string, high int) string {
	known := s.known
	text := "{"
	for range s.throw(5) + high/3*3 {
		name := s.one("x y z v w")
		if s.throw(3) > 0 || slices.Contains(own, name) {
			text += s.statement(high)
			continue
		}
		text += "var " + name + "=" + s.expr(1) + ";"
		own = append(slices.Clip(own), name)
		s.known = append(slices.Clip(s.known), name)
	}
	s.known = known
	return text + "}"
}

func (s *scribe) statement(high int) string {
	e := s.expr(2)
	switch k := s.throw(24); {
	case k == 0 && high > 0:
		return "if(" + e + ")" + s.block(nil, high-1)
	case k == 1 && high > 0:
		return "if(" + e + ")" + s.block(nil, high-1) + "else" + s.block(nil, high-1)
	case k == 2 && high > 0:
		return "while(" + e + ")" + s.block(nil, high-1)
	case k == 3 && high > 0:
		back := s.fork
		s.fork = true
		text := "fork" + s.block(nil, high-1)
		s.fork = back
		return text
	case k < 7 && s.method && !s.fork:
		return "return " + e + ";"
	case k < 12 && len(s.known) > 0:
		return s.one(strings.Join(s.known, " ")) + "=" + e + ";"
	case k < 14:
		return "swap(" + s.expr(1) + "," + s.expr(1) + ");"
	case k < 19:
		return s.call(2) + ";"
	}
	return s.one("print print wait signal") + "(" + e + "); # a note\n"
}

func (s *scribe) class(name, over string) string {
	text := "class " + name + over + "{"
	for _, slot := range []string{"x", "y", "p" + name} {
		if s.throw(2) == 0 && !slices.Contains(s.slots, slot) {
			text, s.slots = text+"slot "+slot+";", append(s.slots, slot)
		}
	}
	for _, head := range strings.Fields("f() g(z) h(z,x) f(y) g() h()") {
		if s.throw(3) == 0 {
			continue
		}
		args := strings.FieldsFunc(head, func(r rune) bool { return strings.ContainsRune("(,)", r) })[1:]
		s.method, s.known = true, slices.Concat(s.slots, args)
		text += "to " + head + s.block(args, 2)
		s.method, s.known = false, nil
	}
	return text + "}"
}

func (s *scribe) program() string {
	s.classes = strings.Fields("a b c d")[:s.throw(5)]
	text := ""
	all := map[string][]string{}
	for i, name := range s.classes {
		over := ""
		s.slots = nil
		if i > 0 && s.throw(3) > 0 {
			below := s.classes[s.throw(i)]
			over, s.slots = ":"+below, slices.Clone(all[below])
		}
		text += s.class(name, over)
		all[name] = s.slots
	}
	return text + "main" + s.block(nil, 3)
}

// knot writes programs of many classes, in whose methods things are called and
// swapped, and hardly anything else is done: much of it only by methods that are
// never called.
type knot struct{ dice }

func (k *knot) thing() string { return "new " + k.one("a b c d e f g h") }

func (k *knot) statement(known string) string {
	switch k.throw(7) {
	case 0, 1:
		return "swap(" + k.thing() + "," + k.one(known+" @") + ");"
	case 2:
		return "(" + k.thing() + ").n(" + k.one(known+" @") + ");"
	case 3:
		return "print(" + k.one(known+" @") + ");"
	case 4:
		return "fork{" + k.one(known+" (@)") + ".m();}"
	}
	return k.one(known+" (@)") + ".m();"
}

// block writes one in which those names are known.
func (k *knot) block(most int, known string) string {
	text := "{"
	for range k.throw(most) {
		text += k.statement(known)
	}
	for strings.Contains(text, "@") {
		text = strings.Replace(text, "@", k.thing(), 1)
	}
	return text + "}"
}

func (k *knot) program() string {
	text := ""
	for i, name := range strings.Fields("a b c d e f g h") {
		text += "class " + name
		if i > 0 && k.throw(3) == 0 {
			text += ":" + "abcdefgh"[i-1:i]
		}
		text += "{"
		if k.throw(4) > 0 {
			text += "to m()" + k.block(3, "self self")
		}
		if k.throw(3) == 0 {
			text += "to n(p)" + k.block(3, "p p self")
		}
		text += "}"
	}
	text += "main{var p=" + k.thing() + ";var g=gate;"
	for range 1 + k.throw(3) {
		text += k.around(k.block(4, "p p"))
	}
	return text + "}"
}

// around lets a block be done in main's: at once, again and again, or when it is
// its turn.
func (k *knot) around(block string) string {
	switch k.throw(6) {
	case 0:
		return "fork" + block
	case 1:
		return "while(1)" + block
	case 2:
		return "fork{wait(g);signal(g);" + block[1:]
	case 3:
		return "signal(g);" + "if(g==g)" + block
	}
	return block[1 : len(block)-1]
}

// counted asks of many programs that they become what is said over again, and
// answers how many of them methods go from 0, 1, 2 and more times, and how many
// methods stay in all of them.
func counted(t *testing.T, count int, program func() string) (times [4]int, kept int) {
	t.Helper()
	for range count {
		if got, rounds, is := agreed(t, program()); is {
			times[min(rounds, 3)]++
			kept += strings.Count(got, " to ")
		}
	}
	return times, kept
}

func TestProgramsSaidOverAgain(t *testing.T) {
	times, kept := counted(t, 2000, (&scribe{dice: 15}).program)
	if times[0] < 200 || times[1] < 1000 || times[2] < 15 || kept < 1000 {
		t.Error(times, kept)
	}
	times, kept = counted(t, 3000, (&knot{dice: 15}).program)
	if times[1] < 2000 || times[2] < 150 || times[3] < 5 || kept < 3000 {
		t.Error(times, kept)
	}
}

// TestWrongInputs has bytes of any kind, and pieces of texts.
func TestWrongInputs(t *testing.T) {
	s := &scribe{dice: 1515}
	for range 1000 {
		text := []byte(s.program())
		agreed(t, string(text[:s.throw(len(text))]))
		agreed(t, string(text[s.throw(len(text)):]))
		for range 1 + s.throw(3) {
			text[s.throw(len(text))] = "xy;{}()=+#\x00\xff 07"[s.throw(15)]
		}
		agreed(t, string(text))
	}
	for b := range 256 {
		agreed(t, string([]byte{byte(b)}))
		agreed(t, "class a{to f(){}}main{new a"+string([]byte{byte(b)})+"f();}")
	}
	for _, text := range []string{"", "\xff\xfe", "é", strings.Repeat("\x00", 99), strings.Repeat("main{", 800), strings.Repeat("to ", 1300),
		"main{" + strings.Repeat("-", 3990) + "1;}", strings.Repeat("class a{}", 400) + "main{}", strings.Repeat("x", 1<<20)} {
		if _, _, is := agreed(t, text); is {
			t.Errorf("%q is a program", text[:min(len(text), 99)])
		}
	}
}
