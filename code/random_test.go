package code

import (
	"slices"
	"strconv"
	"strings"
	"testing"

	"gesso/api"
)

// effects answers how many values an order takes off the stack, and how many
// it pushes.
func effects(o api.Order) (takes, pushes int) {
	switch o.Op {
	case api.OPush, api.ONil, api.OSelf, api.OGate, api.ONew, api.OLoad, api.OGet:
		return 0, 1
	case api.OStore, api.OPut, api.OReturn, api.OPrint, api.OWait, api.OSignal, api.OZero, api.ODrop:
		return 1, 0
	case api.OCall:
		return o.B + 1, 1
	case api.OAdd, api.OSub, api.OMul, api.OLess, api.OSame:
		return 2, 1
	case api.ONeg, api.ONot:
		return 1, 1
	case api.OSwap:
		return 2, 0
	}
	return 0, 0
}

// within tells whether the number A of an order of that list is of something
// in p.
func within(p api.Program, list int, o api.Order) bool {
	is := func(many int) bool { return o.A >= 0 && o.A < many }
	switch o.Op {
	case api.ONew:
		return is(len(p.Classes))
	case api.OLoad, api.OStore:
		return is(p.Locals[list])
	case api.OGet, api.OPut:
		return is(59)
	case api.OCall:
		return is(len(p.Names))
	case api.OFork:
		return is(len(p.Lists)) && o.A > list
	case api.OJump, api.OZero:
		return is(len(p.Lists[list]) + 1)
	}
	return true
}

// sound asks that each list of p can work: what its orders name is there, the
// stack has what they take, and is as high wherever jumps come together.
func sound(t *testing.T, text string, p api.Program) {
	t.Helper()
	if len(p.Lists) != len(p.Locals) {
		t.Fatalf("%q: %d lists, locals of %d", text, len(p.Lists), len(p.Locals))
	}
	for list, orders := range p.Lists {
		high := map[int]int{0: 0}
		for i, o := range orders {
			takes, pushes := effects(o)
			if !within(p, list, o) || high[i] < takes {
				t.Fatalf("%q: list %d, order %d: %s", text, list, i, told(o))
			}
			next := []int{i + 1}
			if o.Op == api.OJump || o.Op == api.OZero {
				next = append(next, o.A)
			}
			for _, at := range next {
				behind := high[i] - takes + pushes
				if was, is := high[at]; is && was != behind {
					t.Fatalf("%q: list %d, order %d: %d or %d values", text, list, at, was, behind)
				}
				high[at] = behind
			}
		}
		if high[len(orders)] != 0 {
			t.Fatalf("%q: list %d leaves values", text, list)
		}
	}
}

// dice throws numbers, the same ones in each run.
type dice uint64

func (d *dice) throw(n int) int {
	*d = *d*6364136223846793005 + 1442695040888963407
	return int(uint64(*d) >> 33 % uint64(n))
}

// one answers one of those words.
func (d *dice) one(words string) string {
	all := strings.Fields(words)
	return all[d.throw(len(all))]
}

// scribe writes programs in which few names stand for much.
type scribe struct {
	dice
	classes string   // the names of all classes
	slots   []string // of the class that is being written, in all
	known   []string // the names that are there
	method  bool
	fork    bool
}

func (s *scribe) expr(high int) string {
	if high > 0 && s.throw(2) == 0 {
		e := s.expr(high - 1)
		switch s.throw(6) {
		case 0:
			return s.one("- !") + "(" + e + ")"
		case 1:
			return "(" + e + ")." + s.one("f g h x y") + "()"
		case 2:
			return "(" + e + ")." + s.one("f g h x y") + "(" + s.expr(high-1) + "," + s.expr(high-1) + ")"
		}
		return "(" + e + s.one("+ - * < ==") + s.expr(high-1) + ")"
	}
	switch k := s.throw(8); {
	case k == 0 && s.method:
		return "self"
	case k == 1 && s.classes != "":
		return "new " + s.one(s.classes)
	case k > 3 && len(s.known) > 0:
		return s.one(strings.Join(s.known, " "))
	}
	return s.one("nil gate 0 7 1073741823")
}

// block writes one, whose own list has those names already.
func (s *scribe) block(own []string, high int) string {
	known := s.known
	text := "{"
	for range s.throw(5) {
		name := s.one("x y z v w")
		if s.throw(3) > 0 || slices.Contains(own, name) {
			text += s.statement(high)
			continue
		}
		text += "var " + name + "=" + s.expr(1) + ";"
		own = append(slices.Clip(own), name)
		s.known = append(slices.Clip(s.known), name)
	}
	s.known = known
	return text + "}"
}

func (s *scribe) statement(high int) string {
	e := s.expr(2)
	switch k := s.throw(14); {
	case k == 0 && high > 0:
		return "if(" + e + ")" + s.block(nil, high-1)
	case k == 1 && high > 0:
		return "if(" + e + ")" + s.block(nil, high-1) + "else" + s.block(nil, high-1)
	case k == 2 && high > 0:
		return "while(" + e + ")" + s.block(nil, high-1)
	case k < 5 && high > 0:
		back := s.fork
		s.fork = true
		text := "fork" + s.block(nil, high-1)
		s.fork = back
		return text
	case k == 5 && s.method && !s.fork:
		return "return " + e + ";"
	case k < 9 && len(s.known) > 0:
		return s.one(strings.Join(s.known, " ")) + "=" + e + ";"
	case k == 9:
		return "swap(" + e + "," + s.expr(1) + ");"
	case k == 10:
		return "(" + e + ");"
	}
	return s.one("print wait signal") + "(" + e + ");"
}

func (s *scribe) methodText(number int) string {
	var args []string
	for _, name := range strings.Fields("x y z") {
		if s.throw(2) == 0 {
			args = append(args, name)
		}
	}
	s.method, s.known = true, slices.Concat(s.slots, args)
	text := "to " + s.one("f g h") + strconv.Itoa(number) + "(" + strings.Join(args, ",") + ")" + s.block(args, 2)
	s.method, s.known = false, nil
	return text
}

func (s *scribe) program() string {
	s.classes = strings.Join(strings.Fields("a b c d")[:s.throw(5)], " ")
	text := ""
	all := map[string][]string{}
	for i, name := range strings.Fields(s.classes) {
		text, s.slots = text+"class "+name, nil
		if i > 0 && s.throw(3) > 0 {
			over := s.one(s.classes[:2*i])
			text, s.slots = text+":"+over, slices.Clone(all[over])
		}
		text += "{"
		for _, slot := range strings.Fields("x y p" + strconv.Itoa(i)) {
			if s.throw(2) == 0 && !slices.Contains(s.slots, slot) {
				text, s.slots = text+"slot "+slot+";", append(s.slots, slot)
			}
		}
		all[name] = s.slots
		for number := range s.throw(4) {
			text += s.methodText(number)
		}
		text += "}"
	}
	return text + "main" + s.block(nil, 4)
}

func TestProgramsSaidOverAgain(t *testing.T) {
	s := &scribe{dice: 12}
	codes := map[api.Errno]int{}
	ops := map[int]int{}
	lists := map[int]int{}
	for range 6000 {
		text := s.program()
		codes[agreed(t, text)]++
		p, _ := Make(text)
		lists[len(p.Lists)]++
		for _, o := range slices.Concat(p.Lists...) {
			ops[o.Op]++
		}
	}
	if codes[api.OK] < 5000 || lists[1] < 100 || lists[9] < 100 {
		t.Error(codes, lists)
	}
	for op := api.OPush; op <= api.ODrop; op++ {
		if ops[op] < 100 {
			t.Error(op, ops[op])
		}
	}
}

// TestSmallTexts has all texts of a few tokens in methods and in main.
func TestSmallTexts(t *testing.T) {
	parts := strings.Fields("var_x= y= return_ fork{ if(x){ }else{ while(1){ } x y.f( new_b ) ; +")
	for i := range len(parts) * len(parts) * len(parts) * len(parts) {
		body := ""
		for k := i; k > 0; k /= len(parts) {
			body += strings.ReplaceAll(parts[k%len(parts)], "_", " ")
		}
		agreed(t, "class a{slot y;to f(x){"+body+"}}class b:a{to f(){"+body+"}}main{}")
		agreed(t, "main{var x=1;var y=2;"+body+"}")
	}
}

// TestWrongInputs has bytes of any kind, and pieces of texts.
func TestWrongInputs(t *testing.T) {
	s := &scribe{dice: 1212}
	for range 2000 {
		text := []byte(s.program())
		agreed(t, string(text[:s.throw(len(text))]))
		agreed(t, string(text[s.throw(len(text)):]))
		for range 1 + s.throw(3) {
			text[s.throw(len(text))] = "xy;{}()=+#\x00\xff 07"[s.throw(15)]
		}
		agreed(t, string(text))
	}
	for b := range 256 {
		agreed(t, string([]byte{byte(b)}))
		agreed(t, "main{nil"+string([]byte{byte(b)})+"f();}")
	}
	for _, text := range []string{"", "\xff\xfe", "é", strings.Repeat("\x00", 99), strings.Repeat("main{", 800),
		"main{" + strings.Repeat("-", 3990) + "1;}", strings.Repeat("class a{}", 400) + "main{}", strings.Repeat("x", 1<<20)} {
		if agreed(t, text) == api.OK {
			t.Errorf("%q is a program", short(text))
		}
	}
}
