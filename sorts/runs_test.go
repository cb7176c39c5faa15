package sorts

import (
	"slices"
	"strconv"
	"strings"
	"testing"

	"gesso/api"
	"gesso/model"
	"gesso/vm"
)

// tame writes programs that fall at an NCall, an NWait, an NSignal, an NSwap
// alone, and not by MaxCalls: conditions are numbers, what is reckoned is small,
// a method calls only those of names with a lesser digit, and forks are few. The
// first letter of a local tells what it is, unless it was swapped: n a number, t
// a thing, g a gate.
type tame struct {
	dice
	slips int  // one of so many values is of any kind
	gates bool // either there are gates, or slots are named: all classes have as many
	level int  // methods with a lesser digit may be called
	self  bool
	names []string
	next  int // the number of the next local
	forks int // how many there may still be
}

// local answers a local of that letter, or the other text, if there is none or
// at times.
func (w *tame) local(letter, other string) string {
	var all []string
	for _, name := range w.names {
		if name[:1] == letter {
			all = append(all, name)
		}
	}
	if len(all) == 0 || w.throw(4) == 0 {
		return other
	}
	return all[w.throw(len(all))]
}

func (w *tame) any() string {
	switch k := w.throw(7); {
	case k == 0:
		return "nil"
	case k == 1 && w.gates:
		return w.local("g", "gate")
	case k == 2 && w.self && !w.gates:
		return w.one("x y")
	case k < 5:
		return w.thing()
	case k == 5 && w.level > 0:
		return w.call()
	}
	return w.local("n", w.one("1 2+3 !0 -7 (nil==1)"))
}

func (w *tame) thing() string {
	if w.throw(w.slips) == 0 {
		return w.any()
	}
	if w.self && w.throw(4) == 0 {
		return "self"
	}
	return w.local("t", "(new "+w.one("a b c")+")")
}

func (w *tame) gate() string {
	if w.throw(w.slips) == 0 {
		return w.any()
	}
	return w.local("g", "gate")
}

// call calls a method, whose first name is a thing's, whose other one is a
// gate's, or of a thing, too.
func (w *tame) call() string {
	ahead, name := w.thing(), "m"+strconv.Itoa(w.throw(w.level))
	if w.throw(2) == 0 {
		return "(" + ahead + ")." + name + "()"
	}
	other := w.thing()
	if w.gates {
		other = w.gate()
	}
	return "(" + ahead + ")." + name + "(" + w.thing() + "," + other + ")"
}

func (w *tame) declared() string {
	letter, expr := "t", w.thing()
	switch k := w.throw(6); {
	case k == 0:
		letter, expr = "n", w.one("1 2*3 nil==nil")
	case k < 3 && w.gates:
		letter, expr = "g", w.gate()
	}
	name := letter + strconv.Itoa(w.next)
	w.next++
	w.names = append(slices.Clip(w.names), name)
	return "var " + name + "=" + expr + ";"
}

// block writes one; those names are its own already.
func (w *tame) block(high int, own ...string) string {
	around := w.names
	w.names = append(slices.Clip(w.names), own...)
	text := "{"
	for range 1 + w.throw(4) {
		text += w.statement(high)
	}
	w.names = around
	return text + "}"
}

func (w *tame) statement(high int) string {
	switch k := w.throw(22); {
	case k < 5:
		return w.declared()
	case k < 8 && w.level > 0:
		return w.call() + ";"
	case k < 10:
		return "swap(" + w.thing() + "," + w.thing() + ");"
	case k < 12 && w.gates:
		return w.one("wait signal signal") + "(" + w.gate() + ");"
	case k == 12 && w.gates:
		return "swap(" + w.one("gate new_b") + "," + w.gate() + ");"
	case k < 14 && w.self && !w.gates:
		return w.one("x y") + "=" + w.any() + ";"
	case k == 14 && high > 0:
		return "if(" + w.any() + "==" + w.any() + ")" + w.block(high-1) + "else" + w.block(high-1)
	case k == 15 && high > 0:
		forks := w.forks
		w.forks = 0
		i := "i" + strconv.Itoa(w.next)
		w.next++
		text := "var " + i + "=0;while(" + i + "<3){" + i + "=" + i + "+1;" + w.block(high - 1)[1:]
		w.forks = forks
		return text
	case k < 18 && w.forks > 0:
		w.forks--
		return "fork" + w.block(high)
	case k == 18:
		if name := w.local("t", ""); name != "" {
			return name + "=" + w.thing() + ";"
		}
	}
	return "print(" + w.any() + ");"
}

func (w *tame) class(head string, has int) string {
	text := "class " + head + "{"
	if !strings.Contains(head, ":") {
		text += "slot x;slot y;"
	}
	w.self = true
	for level := range 3 {
		w.level = level
		back := w.one("} } return_self;} return_1;}")
		if w.throw(has) > 0 {
			text += "to m" + strconv.Itoa(level) + "()" + strings.TrimSuffix(w.block(1), "}") + back
		}
		if w.throw(has) > 0 {
			other := "t8"
			if w.gates {
				other = "g8"
			}
			text += "to m" + strconv.Itoa(level) + "(t9," + other + ")" + strings.TrimSuffix(w.block(1, "t9", other), "}") + back
		}
	}
	w.self = false
	return text + "}"
}

func (w *tame) program() string {
	w.next, w.forks = 10, 0
	text := w.class("a", 20) + w.class("b:a", 2) + w.class("c", 20)
	w.level, w.forks = 3, 6
	return text + "main" + w.block(3)
}

// sortOf answers the sort of what was printed so, in a program with those
// classes.
func sortOf(program api.Node, print string) int {
	switch print {
	case "nil":
		return null
	case "gate":
		return gate
	}
	if _, err := strconv.Atoi(print); err == nil {
		return number
	}
	return slices.IndexFunc(program.Kids, func(n api.Node) bool { return n.Kind == api.NClass && n.Text == print })
}

// printed answers the sorts that the exprs of the NPrints of text have.
func printed(t *testing.T, text string) map[int]bool {
	t.Helper()
	all, can := tell(t, text), map[int]bool{}
	for at, node := range flat(checked(t, text)) {
		if node.Kind == api.NPrint {
			for _, sort := range all[at+1] {
				can[sort] = true
			}
		}
	}
	return can
}

// ran answers the trace of a run of text, which is a program. It has to print
// nothing that can't be.
func ran(t *testing.T, text string, script []int, can map[int]bool) api.Trace {
	t.Helper()
	r, f := model.Run(text, script)
	if f != (api.Fault{}) {
		t.Fatalf("%q: %v", text, f)
	}
	n := checked(t, text)
	for _, print := range r.Prints {
		if !can[sortOf(n, print)] {
			t.Fatalf("%q by %v prints %s, which no print can: %v", text, script, print, can)
		}
	}
	return r
}

// TestRunsPrintWhatIsTold has programs of any kind.
func TestRunsPrintWhatIsTold(t *testing.T) {
	s := &scribe{dice: 41}
	prints := 0
	for range 2000 {
		text := s.program()
		can := printed(t, text)
		for _, script := range [][]int{nil, s.script(), s.script()} {
			prints += len(ran(t, text, script, can).Prints)
		}
	}
	if prints < 100 {
		t.Error(prints)
	}
}

// counts are of the programs that are safe, and of the runs of others that fall.
type counts struct{ safes, swaps, waits, falls int }

// TestRunsOfWhatIsSafe: such programs don't fall, however they are run, by nodes
// or on a heap; many others do.
func TestRunsOfWhatIsSafe(t *testing.T) {
	var c counts
	for seed := range 8 {
		w := &tame{dice: dice(seed), slips: []int{5, 15, 40, 1000}[seed/2], gates: seed%2 == 0}
		for range 100 {
			text := w.program()
			isSafe, _ := agreed(t, text)
			falls := fallen(t, text, [][]int{nil, w.script(), w.script(), w.script()})
			switch {
			case isSafe && falls > 0:
				t.Fatalf("%q is safe, and falls", text)
			case isSafe:
				c.safes++
				c.swaps += strings.Count(text, "swap(")
				c.waits += strings.Count(text, "wait(") + strings.Count(text, "signal(")
			default:
				c.falls += falls
			}
		}
	}
	if c.safes < 150 || c.swaps < 200 || c.waits < 100 || c.falls < 300 {
		t.Error(c)
	}
}

// fallen answers how many runs of text by those scripts fall.
func fallen(t *testing.T, text string, scripts [][]int) int {
	t.Helper()
	falls, can := 0, printed(t, text)
	for _, script := range scripts {
		if ran(t, text, script, can).Status == api.Fell {
			falls++
		}
	}
	if r, _ := vm.Run(text, scripts[0], nil, 2000); r.Status == api.Fell {
		falls++
	}
	return falls
}
