package fold

import (
	"slices"
	"strings"
	"testing"
)

// dice throws numbers, the same ones in each run.
type dice uint64

func (d *dice) throw(n int) int {
	*d = *d*6364136223846793005 + 1442695040888963407
	return int(uint64(*d) >> 33 % uint64(n))
}

// one answers one of those words.
func (d *dice) one(words string) string {
	all := strings.Fields(words)
	return all[d.throw(len(all))]
}

// script answers one of some numbers.
func (d *dice) script() []int {
	all := make([]int, d.throw(60))
	for i := range all {
		all[i] = d.throw(41) - 20
	}
	return all
}

// scribe writes programs of any kind, in which much is reckoned.
type scribe struct {
	dice
	slips  int      // one of so many values is of any kind
	slots  []string // of the class that is being written, in all
	known  []string // the names that are there
	method bool
	fork   bool
}

// number writes what is a number, if nothing slips.
func (s *scribe) number(high int) string {
	if s.throw(s.slips) == 0 {
		return s.expr(high)
	}
	if high > 0 {
		switch s.throw(5) {
		case 0, 1:
			return "(" + s.number(high-1) + s.one("+ - * < ==") + s.number(high-1) + ")"
		case 2:
			return s.number(high-1) + s.one("+ - *") + s.number(high-1)
		case 3:
			return s.one("- !") + s.number(high-1)
		}
	}
	if s.throw(s.slips) == 0 {
		return s.one("1073741823 1073741822 32768 -32768 32767 32769 65536 536870912 -1073741823")
	}
	return s.one("0 0 1 1 2 3 7 12 -1 -2")
}

// expr writes an expression of any kind.
func (s *scribe) expr(high int) string {
	switch k := s.throw(9); {
	case k == 0 && s.method:
		return "self"
	case k == 1 && high > 0:
		return s.call(high)
	case k == 2:
		return s.one("nil gate")
	case k == 3:
		return s.thing()
	case k < 7 && len(s.known) > 0:
		return s.one(strings.Join(s.known, " "))
	}
	return s.number(max(0, high-1))
}

// thing writes what is a thing, if nothing slips.
func (s *scribe) thing() string {
	if s.throw(s.slips) == 0 {
		return "(" + s.expr(1) + ")"
	}
	return "(new " + s.one("a b") + ")"
}

func (s *scribe) call(high int) string {
	exprs := make([]string, s.throw(3))
	for i := range exprs {
		exprs[i] = s.number(high - 1)
	}
	return s.thing() + "." + s.one("f g") + "(" + strings.Join(exprs, ",") + ")"
}

// block writes one, whose own list has those names already.
func (s *scribe) block(own []string, high int) string {
	known := s.known
	text := "{"
	for range 1 + s.throw(4) {
		name := s.one("x y z v w")
		if s.throw(3) > 0 || slices.Contains(own, name) {
			text += s.statement(high)
			continue
		}
		text += "var " + name + "=" + s.number(2) + ";"
		own = append(slices.Clip(own), name)
		s.known = append(slices.Clip(s.known), name)
	}
	s.known = known
	return text + "}"
}

func (s *scribe) statement(high int) string {
	e := s.number(3)
	switch k := s.throw(28); {
	case k < 2 && high > 0:
		return "if(" + e + ")" + s.block(nil, high-1)
	case k < 4 && high > 0:
		return "if(" + e + ")" + s.block(nil, high-1) + "else" + s.block(nil, high-1)
	case k == 4 && high > 0:
		return "while(" + e + ")" + s.block(nil, high-1)
	case k < 7 && high > 0:
		back := s.fork
		s.fork = true
		text := "fork" + s.block(nil, high-1)
		s.fork = back
		return text
	case k < 9 && s.method && !s.fork:
		return "return " + e + ";"
	case k < 13 && len(s.known) > 0:
		return s.one(strings.Join(s.known, " ")) + "=" + e + ";"
	case k == 13:
		return "swap(" + s.thing() + "," + s.thing() + ");"
	case k == 14:
		return s.one("signal(gate); wait(gate); while(1){print(1-2);} while(1+1){}")
	case k < 20:
		return s.call(2) + ";"
	case k == 20:
		return s.expr(3) + ";"
	}
	return "print(" + e + "); # a note\n"
}

func (s *scribe) class(head string, own ...string) string {
	text := "class " + head + "{"
	for _, slot := range own {
		text += "slot " + slot + ";"
	}
	s.slots = append(s.slots, own...)
	for _, head := range strings.Fields("f() g() f(x) g(z) f(z,x) g(x,w)") {
		if s.throw(3) == 0 {
			continue
		}
		args := strings.FieldsFunc(head, func(r rune) bool { return strings.ContainsRune("(,)", r) })[1:]
		s.method, s.known = true, slices.Concat(s.slots, args)
		text += "to " + head + s.block(args, 1)
		s.method, s.known = false, nil
	}
	return text + "}"
}

func (s *scribe) program() string {
	s.slots = nil
	text := s.class("a", "p") + s.class("b:a", "q") + "main{"
	for range 3 {
		text += s.statement(2)
	}
	return text + s.block(nil, 2)[1:]
}

func TestProgramsSaidOverAgain(t *testing.T) {
	programs, reckoned, stayed := 0, 0, 0
	for seed, slips := range []int{3, 8, 30, 200} {
		s := &scribe{dice: dice(seed + 16), slips: slips}
		for range 500 {
			text := s.program()
			got, many, is := agreed(t, text)
			if !is {
				continue
			}
			programs++
			reckoned += many
			stayed += strings.Count(got, " + ") + strings.Count(got, " * ")
		}
	}
	if programs < 1900 || reckoned < 50000 || stayed < 5000 {
		t.Error(programs, reckoned, stayed)
	}
}

// TestWrongInputs has bytes of any kind, and pieces of texts.
func TestWrongInputs(t *testing.T) {
	s := &scribe{dice: 1616, slips: 20}
	for range 1000 {
		text := []byte(s.program())
		agreed(t, string(text[:s.throw(len(text))]))
		agreed(t, string(text[s.throw(len(text)):]))
		for range 1 + s.throw(3) {
			text[s.throw(len(text))] = "xy;{}()=+-*!<#\x00\xff 071"[s.throw(20)]
		}
		agreed(t, string(text))
	}
	for b := range 256 {
		agreed(t, string([]byte{byte(b)}))
		agreed(t, "main{print(1"+string([]byte{byte(b)})+"2);}")
		agreed(t, "main{print("+string([]byte{byte(b)})+"2);}")
	}
	for _, text := range []string{"", "\xff\xfe", "é", strings.Repeat("\x00", 99), strings.Repeat("main{", 800), strings.Repeat("1+", 1300),
		"main{" + strings.Repeat("-", 3990) + "1;}", strings.Repeat("class a{}", 400) + "main{}", strings.Repeat("x", 1<<20)} {
		if _, _, is := agreed(t, text); is {
			t.Errorf("%q is a program", text[:min(len(text), 99)])
		}
	}
}
