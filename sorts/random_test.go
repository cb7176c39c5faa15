package sorts

import (
	"slices"
	"strconv"
	"strings"
	"testing"
)

// dice throws numbers, the same ones in each run.
type dice uint64

func (d *dice) throw(n int) int {
	*d = *d*6364136223846793005 + 1442695040888963407
	return int(uint64(*d) >> 33 % uint64(n))
}

// one answers one of those words, with a blank for each _.
func (d *dice) one(words string) string {
	all := strings.Fields(words)
	return strings.ReplaceAll(all[d.throw(len(all))], "_", " ")
}

// script answers one of some numbers.
func (d *dice) script() []int {
	all := make([]int, d.throw(40))
	for i := range all {
		all[i] = d.throw(41) - 20
	}
	return all
}

// scribe writes programs of any kind, in which few names stand for much.
type scribe struct {
	dice
	classes []string
	slots   []string // of the class that is being written, in all
	known   []string // the names that are there
	method  bool
	fork    bool
}

func (s *scribe) expr(high int) string {
	if high > 0 {
		switch s.throw(9) {
		case 0, 1:
			return s.call(high)
		case 2:
			return "(" + s.expr(high-1) + s.one("+ - * < ==") + s.expr(high-1) + ")"
		case 3:
			return s.one("- !") + s.expr(high-1)
		}
	}
	switch k := s.throw(12); {
	case k < 2 && s.method:
		return "self"
	case k < 5 && len(s.classes) > 0:
		return "new " + s.one(strings.Join(s.classes, " "))
	case k < 10 && len(s.known) > 0:
		return s.one(strings.Join(s.known, " "))
	}
	return s.one("nil gate 7")
}

func (s *scribe) call(high int) string {
	var exprs []string
	for range s.throw(3) {
		exprs = append(exprs, s.expr(high-1))
	}
	return "(" + s.expr(high-1) + ")." + s.one("f g h") + "(" + strings.Join(exprs, ",") + ")"
}

// block writes one, whose own list has those names already.
func (s *scribe) block(own []string, high int) string {
	known := s.known
	text := "{"
	for range s.throw(5) {
		name := s.one("x y z v w")
		if s.throw(3) > 0 || slices.Contains(own, name) {
			text += s.statement(high)
			continue
		}
		text += "var " + name + "=" + s.expr(1) + ";"
		own = append(slices.Clip(own), name)
		s.known = append(slices.Clip(s.known), name)
	}
	s.known = known
	return text + "}"
}

func (s *scribe) statement(high int) string {
	e := s.expr(2)
	switch k := s.throw(24); {
	case k == 0 && high > 0:
		return "if(" + e + ")" + s.block(nil, high-1)
	case k == 1 && high > 0:
		return "if(" + e + ")" + s.block(nil, high-1) + "else" + s.block(nil, high-1)
	case k == 2 && high > 0:
		return "while(" + e + ")" + s.block(nil, high-1)
	case k == 3 && high > 0:
		back := s.fork
		s.fork = true
		text := "fork" + s.block(nil, high-1)
		s.fork = back
		return text
	case k < 9 && s.method && !s.fork:
		return "return " + e + ";"
	case k < 14 && len(s.known) > 0:
		return s.one(strings.Join(s.known, " ")) + "=" + e + ";"
	case k == 14:
		return "swap(" + s.expr(1) + "," + s.expr(1) + ");"
	case k < 20:
		return s.call(2) + ";"
	}
	return s.one("print print wait signal") + "(" + e + ");"
}

func (s *scribe) class(name, over string) string {
	text := "class " + name + over + "{"
	for _, slot := range []string{"x", "y", "p" + name} {
		if s.throw(2) == 0 && !slices.Contains(s.slots, slot) {
			text, s.slots = text+"slot "+slot+";", append(s.slots, slot)
		}
	}
	for _, head := range strings.Fields("f() f(x) f(x,y) g() g(z) g(y,v) h() h(y) h(z,x)") {
		if s.throw(3) > 0 {
			continue
		}
		args := strings.FieldsFunc(head, func(r rune) bool { return strings.ContainsRune("(,)", r) })[1:]
		s.method, s.known = true, slices.Concat(s.slots, args)
		text += "to " + head + s.block(args, 2)
		s.method, s.known = false, nil
	}
	return text + "}"
}

func (s *scribe) program() string {
	s.classes = strings.Fields("a b c d")[:s.throw(5)]
	text := ""
	all := map[string][]string{}
	for i, name := range s.classes {
		over := ""
		s.slots = nil
		if i > 0 && s.throw(3) > 0 {
			below := s.classes[s.throw(i)]
			over, s.slots = ":"+below, slices.Clone(all[below])
		}
		text += s.class(name, over)
		all[name] = s.slots
	}
	return text + "main" + s.block(nil, 3)
}

func TestProgramsSaidOverAgain(t *testing.T) {
	s := &scribe{dice: 14}
	programs, safes := 0, 0
	lists := map[string]int{}
	for range 5000 {
		text := s.program()
		isSafe, is := agreed(t, text)
		if is {
			programs++
		}
		if isSafe {
			safes++
		}
		all, _ := Tell(text)
		for _, sorts := range all {
			told := ""
			for _, sort := range sorts {
				told += strconv.Itoa(sort) + " "
			}
			lists[told]++
		}
	}
	if programs < 4500 || safes < 300 || programs-safes < 1000 || len(lists) < 60 {
		t.Error(programs, safes, len(lists))
	}
}

// TestWrongInputs has bytes of any kind, and pieces of texts.
func TestWrongInputs(t *testing.T) {
	s := &scribe{dice: 1414}
	for range 1500 {
		text := []byte(s.program())
		agreed(t, string(text[:s.throw(len(text))]))
		agreed(t, string(text[s.throw(len(text)):]))
		for range 1 + s.throw(3) {
			text[s.throw(len(text))] = "xy;{}()=+#\x00\xff 07"[s.throw(15)]
		}
		agreed(t, string(text))
	}
	for b := range 256 {
		agreed(t, string([]byte{byte(b)}))
		agreed(t, "main{nil"+string([]byte{byte(b)})+"f();}")
	}
	for _, text := range []string{"", "\xff\xfe", "é", strings.Repeat("\x00", 99), strings.Repeat("main{", 800),
		"main{" + strings.Repeat("-", 3990) + "1;}", strings.Repeat("class a{}", 400) + "main{}", strings.Repeat("x", 1<<20)} {
		if _, is := agreed(t, text); is {
			t.Errorf("%q is a program", short(text))
		}
	}
}
