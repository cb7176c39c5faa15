package check

import (
	"slices"
	"strconv"
	"strings"
	"testing"

	"gesso/api"
	"gesso/syntax"
)

// row is a node by its number: in which one it stands, and which number comes
// behind all that is in it.
type row struct {
	api.Node
	up, end int
}

// rows are all nodes of a program, by their numbers. J1 is said over again of
// them: of each node by itself, wherever it stands, with nothing that is kept
// from one to the next.
type rows []row

func rowsOf(all rows, n api.Node, up int) rows {
	at := len(all)
	all = append(all, row{Node: n, up: up})
	for _, kid := range n.Kids {
		all = rowsOf(all, kid, at)
	}
	all[at].end = len(all)
	return all
}

// around answers the innermost node of one of those kinds around a node, or -1.
func (r rows) around(at int, kinds ...int) int {
	for at = r[at].up; at >= 0 && !slices.Contains(kinds, r[at].Kind); at = r[at].up {
	}
	return at
}

// of answers the nodes of that kind right in a node.
func (r rows) of(up, kind int) []int {
	var all []int
	for i := range r {
		if r[i].up == up && r[i].Kind == kind {
			all = append(all, i)
		}
	}
	return all
}

// classAhead answers the first class of that name ahead of a node, or -1.
func (r rows) classAhead(name string, at int) int {
	for _, c := range r.of(0, api.NClass) {
		if c < at && r[c].Text == name {
			return c
		}
	}
	return -1
}

// slotsAhead answers the names of the slots of a class, but for those of its
// own from a node on.
func (r rows) slotsAhead(class, at int) []string {
	var all []string
	for _, over := range r.of(class, api.NName) {
		if c := r.classAhead(r[over].Text, class); c >= 0 {
			all = r.slotsAhead(c, r[c].end)
		}
	}
	for _, s := range r.of(class, api.NSlot) {
		if s < at {
			all = append(all, r[s].Text)
		}
	}
	return all
}

// blockOf answers the block whose local that var or that name in parentheses
// is, and the number from which on it is there.
func (r rows) blockOf(local int) (block, from int) {
	if r[local].Kind == api.NArg {
		return r.of(r[local].up, api.NBlock)[0], local + 1
	}
	return r.around(local, api.NBlock), r[local].end
}

// there answers the locals that are there at a node.
func (r rows) there(at int) []int {
	var all []int
	for i := range at {
		if r[i].Kind != api.NVar && r[i].Kind != api.NArg {
			continue
		}
		block, from := r.blockOf(i)
		aside := r[i].Kind == api.NArg && r[at].Kind == api.NArg && r[i].up == r[at].up
		if aside || block < at && at < r[block].end && from <= at {
			all = append(all, i)
		}
	}
	return all
}

func (r rows) isNamed(at int) bool {
	for _, local := range r.there(at) {
		if r[local].Text == r[at].Text {
			return true
		}
	}
	class := r.around(at, api.NClass)
	return class >= 0 && slices.Contains(r.slotsAhead(class, at), r[at].Text)
}

// ofClass answers what is wrong with a class, its slots and its methods.
func (r rows) ofClass(at int) api.Errno {
	n, up := r[at], r[at].up
	switch n.Kind {
	case api.NClass:
		if r.classAhead(n.Text, at) >= 0 {
			return api.ErrTwice
		}
	case api.NName:
		if r.classAhead(n.Text, up) < 0 {
			return api.ErrName
		}
	case api.NSlot:
		ahead := r.slotsAhead(up, at)
		if slices.Contains(ahead, n.Text) {
			return api.ErrTwice
		}
		if len(ahead) > 58 {
			return api.ErrSize
		}
	case api.NMethod:
		for _, m := range r.of(up, api.NMethod) {
			if m < at && r[m].Text == n.Text && r[m].Num == n.Num {
				return api.ErrTwice
			}
		}
	}
	return api.OK
}

// ofLocal answers what is wrong with a var or a name in parentheses.
func (r rows) ofLocal(at int) api.Errno {
	own, _ := r.blockOf(at)
	ahead := r.there(at)
	for _, local := range ahead {
		if block, _ := r.blockOf(local); block == own && r[local].Text == r[at].Text {
			return api.ErrTwice
		}
	}
	if len(ahead) > 29 {
		return api.ErrSize
	}
	return api.OK
}

// wrong answers what is wrong with a node itself.
func (r rows) wrong(at int) api.Errno {
	n := r[at]
	if n.Kind == api.NClass || n.up >= 0 && r[n.up].Kind == api.NClass {
		return r.ofClass(at)
	}
	switch n.Kind {
	case api.NArg, api.NVar:
		return r.ofLocal(at)
	case api.NSet, api.NName:
		if !r.isNamed(at) {
			return api.ErrName
		}
	case api.NNew:
		if r.classAhead(n.Text, len(r)) < 0 {
			return api.ErrName
		}
	case api.NSelf:
		if r.around(at, api.NMethod) < 0 {
			return api.ErrKind
		}
	case api.NReturn:
		if up := r.around(at, api.NMethod, api.NFork); up < 0 || r[up].Kind == api.NFork {
			return api.ErrKind
		}
	}
	return api.OK
}

// saidFault is the fault of a program that was parsed, said over again.
func saidFault(n api.Node) api.Fault {
	r := rowsOf(nil, n, -1)
	var first api.Fault
	best := 2*len(r) + 1
	for at := range r {
		when := 2 * at
		if r[at].Kind == api.NVar {
			when = 2*r[at].end - 1 // behind all that is in it
		}
		if e := r.wrong(at); e != api.OK && when < best {
			first, best = api.Fault{Code: e, At: at}, when
		}
	}
	return first
}

// agreed asks that Check answers the fault that is said over again, or the
// node of that text, and answers the code.
func agreed(t *testing.T, text string) api.Errno {
	t.Helper()
	n, want := syntax.Parse(text)
	if want == (api.Fault{}) {
		want = saidFault(n)
	}
	got, f := Check(text)
	if f != want || f.Code == api.OK && shown(got) != shown(n) || f.Code != api.OK && !isZero(got) {
		t.Fatalf("%q: %s %v, want %v", text, short(shown(got)), f, want)
	}
	return f.Code
}

// dice throws numbers, the same ones in each run.
type dice uint64

func (d *dice) throw(n int) int {
	*d = *d*6364136223846793005 + 1442695040888963407
	return int(uint64(*d) >> 33 % uint64(n))
}

// one answers one of those texts.
func (d *dice) one(all []string) string { return all[d.throw(len(all))] }

// writer writes texts of programs, most of what is in them right.
type writer struct {
	dice
	slips   int      // one of so many things is not looked at, whether it is right
	classes []string // all names of classes
	slots   map[string][]string
	known   []string // names that are likely to be there
	method  bool
	fork    bool
}

func (w *writer) slip() bool { return w.throw(w.slips) == 0 }

// pool has the names of this text, right or not.
func (w *writer) pool() []string { return strings.Fields("a b c d e f g h x y z v0 v1 v2 v3") }

func (w *writer) expr(high int) string {
	if high > 0 && w.throw(2) == 0 {
		one, other := w.expr(high-1), w.expr(high-1)
		return w.one([]string{"-(" + one + ")", "!" + one, "(" + one + ")." + w.one(w.pool()) + "()", "(" + one + ").f(" + other + ")",
			"(" + one + "+" + other + ")", "(" + one + "==" + other + ")", "(" + one + ")*(" + other + ")"})
	}
	switch k := w.throw(8); {
	case w.slip():
		return w.one([]string{w.one(w.pool()), "new " + w.one(w.pool()), "self", "self", "self"})
	case k == 0 && w.method:
		return "self"
	case k == 1 && len(w.classes) > 0:
		return "new " + w.one(w.classes)
	case k > 3 && len(w.known) > 0:
		return w.one(w.known)
	}
	return w.one([]string{"nil", "gate", "7"})
}

// fresh answers a name that is none of those, or one of them by a slip.
func (w *writer) fresh(taken []string) string {
	if len(taken) > 0 && w.slip() {
		return w.one(taken)
	}
	for range 40 {
		if name := w.one(w.pool()); !slices.Contains(taken, name) {
			return name
		}
	}
	return "n" + strconv.Itoa(len(taken))
}

// block writes one whose own locals some are already.
func (w *writer) block(own []string, high int) string {
	known := len(w.known)
	s := "{"
	for range w.throw(6) {
		if w.throw(3) == 0 {
			name := w.fresh(own)
			s += "var " + name + "=" + w.expr(1) + ";"
			own, w.known = append(slices.Clone(own), name), append(slices.Clone(w.known), name)
			continue
		}
		s += w.statement(high)
	}
	w.known = w.known[:known]
	return s + "}"
}

func (w *writer) statement(high int) string {
	e := w.expr(2)
	switch k := w.throw(12); {
	case k == 0 && high > 0:
		return "if(" + e + ")" + w.block(nil, high-1)
	case k == 1 && high > 0:
		return "if(" + e + ")" + w.block(nil, high-1) + "else" + w.block(nil, high-1)
	case k == 2 && high > 0:
		return "while(" + e + ")" + w.block(nil, high-1)
	case k == 3 && high > 0:
		back := w.fork
		w.fork = true
		s := "fork" + w.block(nil, high-1)
		w.fork = back
		return s
	case k == 4 && (w.method && !w.fork || w.slip()):
		return "return " + e + ";"
	case k < 8 && len(w.known) > 0:
		return w.one(w.known) + "=" + e + ";"
	case w.slip():
		return w.one(w.pool()) + "=" + e + ";"
	}
	return w.one([]string{"print(" + e + ");", "wait(" + e + ");", "signal(" + e + ");", "swap(" + e + ",nil);", e + ";", "(" + e + ");"})
}

func (w *writer) methods() string {
	s := ""
	var all []string
	for range w.throw(4) {
		var names []string
		for range w.throw(4) {
			names = append(names, w.fresh(names))
		}
		key := w.one([]string{"f", "g", "a", "x"})
		if full := key + strconv.Itoa(len(names)); !slices.Contains(all, full) || w.slip() {
			all = append(all, full)
			known := w.known
			w.known = slices.Concat(w.known, names)
			s += "to " + key + "(" + strings.Join(names, ",") + ")" + w.block(names, 2)
			w.known = known
		}
	}
	return s
}

func (w *writer) class(k int) string {
	s := "class " + w.classes[k]
	var slots []string
	if k > 0 && w.throw(2) == 0 {
		over := w.classes[w.throw(k)]
		if w.slip() {
			over = w.one(w.pool())
		}
		s, slots = s+":"+over, slices.Clone(w.slots[over])
	}
	s += "{"
	for range w.throw(4) {
		slots = append(slots, w.fresh(slots))
		s += "slot " + slots[len(slots)-1] + ";"
	}
	w.slots[w.classes[k]], w.known, w.method = slots, slots, true
	s += w.methods() + "}"
	w.known, w.method = nil, false
	return s
}

func (w *writer) program() string {
	w.classes, w.slots = nil, map[string][]string{}
	for range w.throw(4) {
		w.classes = append(w.classes, w.fresh(w.classes))
	}
	s := ""
	for k := range w.classes {
		s += w.class(k)
	}
	return s + "main" + w.block(nil, 3)
}

// TestFaultsSaidOverAgain has programs with faults of all kinds, and with none.
func TestFaultsSaidOverAgain(t *testing.T) {
	codes := map[api.Errno]int{}
	for seed, slips := range []int{5, 15, 40, 100, 300} {
		w := &writer{dice: dice(seed + 7), slips: slips}
		for range 3000 {
			codes[agreed(t, w.program())]++
		}
	}
	for _, e := range []api.Errno{api.OK, api.ErrTwice, api.ErrName, api.ErrKind} {
		if codes[e] < 500 {
			t.Error(codes)
		}
	}
}

// TestManyLocalsSaidOverAgain has rows of vars and blocks that begin and end,
// with about as many locals as there may be.
func TestManyLocalsSaidOverAgain(t *testing.T) {
	d := dice(77)
	codes := map[api.Errno]int{}
	for range 1500 {
		many := d.throw(12)
		text, deep := "class a{to f("+args("v", many)+"){", 0
		for i := range 20 + d.throw(40) {
			switch k := d.throw(8); {
			case k == 0 && deep < 9:
				text, deep = text+d.one([]string{"fork{", "while(nil){", "if(1){", "if(1){}else{"}), deep+1
			case k == 1 && deep > 0:
				text, deep = text+"}", deep-1
			case k == 2 && d.throw(9) == 0:
				text += "v" + strconv.Itoa(d.throw(60)) + ";"
			default:
				text += "var v" + strconv.Itoa(12+i-d.throw(60)/59*3) + "=1;"
			}
		}
		codes[agreed(t, text+times("}", deep)+"}}main{}")]++
	}
	if codes[api.OK] < 300 || codes[api.ErrSize] < 300 || codes[api.ErrTwice] < 30 || codes[api.ErrName] < 30 {
		t.Error(codes)
	}
}

// TestManySlotsSaidOverAgain has classes that stand on one another, with about
// as many slots as there may be.
func TestManySlotsSaidOverAgain(t *testing.T) {
	d := dice(777)
	codes := map[api.Errno]int{}
	for range 600 {
		text, next := "", 0
		for k := range 2 + d.throw(5) {
			text += "class c" + strconv.Itoa(k)
			if k > 0 && d.throw(5) > 0 {
				text += ":c" + strconv.Itoa(max(0, k-1-d.throw(2)))
			}
			text += "{"
			for range d.throw(25) {
				text += "slot s" + strconv.Itoa(max(0, next-d.throw(300)/299*9)) + ";"
				next++
			}
			text += "}"
		}
		codes[agreed(t, text+"main{}")]++
	}
	if codes[api.OK] < 50 || codes[api.ErrSize] < 20 || codes[api.ErrTwice] < 50 {
		t.Error(codes)
	}
}

// TestSmallTexts has all texts of a few tokens in a method and in main.
func TestSmallTexts(t *testing.T) {
	parts := strings.Fields("var_x= x= return_ fork{ if( while(1){ } )}else{ ){ x y self new_a new_c ; +")
	for i := range len(parts) * len(parts) * len(parts) * len(parts) {
		body := ""
		for k := i; k > 0; k /= len(parts) {
			body += strings.ReplaceAll(parts[k%len(parts)], "_", " ")
		}
		agreed(t, "class a{slot y;to f(x){"+body+"}}class b{to f(){"+body+"}}main{}")
		agreed(t, "main{"+body+"}")
	}
}

// TestWrongInputs has bytes of any kind, and pieces of texts.
func TestWrongInputs(t *testing.T) {
	d := dice(7777)
	w := &writer{dice: 8, slips: 50}
	for range 3000 {
		text := []byte(w.program())
		for range d.throw(4) {
			text[d.throw(len(text))] = byte(d.throw(256))
		}
		agreed(t, string(text))
		agreed(t, string(text[:d.throw(len(text))]))
		agreed(t, string(text[d.throw(len(text)):]))
	}
	for _, text := range []string{"\x00", "\xff\xfe", "é", times("\x00", 99), times("class a:", 500), times("main{", 800), times("main{", 801),
		"main{" + times("-", 3990) + "x;}", "main{" + times("-", 590) + "x;}", "main{x" + times("+x", 290) + ";}", "main{x" + times(".f(x)", 190) + ";}",
		times("class a{}", 400) + "main{}", times("x", 1<<20)} {
		agreed(t, text)
	}
	for b := range 256 {
		agreed(t, string([]byte{byte(b)}))
		agreed(t, "main{x"+string([]byte{byte(b)})+"y;}")
	}
}
