package vm

import (
	"slices"
	"strconv"
	"strings"
	"testing"

	"gesso/api"
	"gesso/code"
	"gesso/heap"
	"gesso/model"
	"gesso/reach"
	"gesso/word"
)

// The limits stand here as plain digits, so that a slip in how the program
// works them out is seen.
const (
	minRoom   = 100
	maxWords  = 2000
	maxCalls  = 40
	maxProcs  = 8
	maxRounds = 300
	maxMarks  = 1500
)

// digits answers n in decimals.
func digits(n int) string { return strconv.Itoa(n) }

// times answers that text so many times.
func times(text string, many int) string { return strings.Repeat(text, many) }

// short answers the front of a text.
func short(text string) string { return text[:min(len(text), 200)] }

// ends answers the trace as one text.
func ends(r api.Trace) string {
	status := [...]string{"none", "done", "stuck", "fell", "endless", "out", "full"}[r.Status]
	return strings.Join(append([]string{status, digits(r.Steps), digits(r.Made)}, r.Prints...), " ")
}

// rows are some rows of picks ahead of which a heap is collected.
func rows() [][]int {
	return [][]int{nil, {0}, {1, 3, 5, 7, 3}, {-1, 2, 4, maxMarks, 1 << 40}, each()}
}

// each answers the numbers of all picks that can be.
func each() []int {
	all := make([]int, maxMarks)
	for i := range all {
		all[i] = i
	}
	return all
}

// ran asks that the run of text ends so with that room, whenever it is
// collected.
func ran(t *testing.T, text string, script []int, room int, want string) {
	t.Helper()
	for _, when := range rows() {
		r, f := Run(text, script, when, room)
		if f != (api.Fault{}) || ends(r) != want {
			t.Errorf("%q %v, room %d, collected at %v:\n%s %v, want\n%s", short(text), script, room, when[:min(len(when), 9)], ends(r), f, want)
			return
		}
	}
}

// runs asks that the run of text is what it is by nodes, with little room and
// with much, and ends so.
func runs(t *testing.T, text string, script []int, want string) {
	t.Helper()
	r, f := model.Run(text, script)
	if f != (api.Fault{}) || ends(r) != want {
		t.Fatalf("%q: by nodes %s %v", short(text), ends(r), f)
	}
	for _, room := range []int{minRoom, 200, maxWords} {
		ran(t, text, script, room, want)
	}
}

// shows asks how heap and roots are behind so many picks, with much room.
func shows(t *testing.T, text string, at int, things, held string) {
	t.Helper()
	looks(t, text, nil, nil, maxWords, at, things, held)
}

// looks asks which things stand behind the first ones, and what is held behind
// their references.
func looks(t *testing.T, text string, script, when []int, room, at int, things, held string) {
	t.Helper()
	h, roots := seen(t, text, script, when, room, at)
	p, _ := code.Make(text)
	if got := thingsTold(p, h); got != things {
		t.Errorf("%q behind %d: things %s, want %s", short(text), at, got, things)
	}
	if got := heldTold(p, h, roots); got != held {
		t.Errorf("%q behind %d: held %s, want %s", short(text), at, got, held)
	}
}

// seen answers what is shown, which may be, with the first things standing and
// held first.
func seen(t *testing.T, text string, script, when []int, room, at int) (api.Heap, []int) {
	t.Helper()
	h, roots, f := Shown(text, script, when, room, at)
	if f != (api.Fault{}) {
		t.Fatalf("%q behind %d: %v", short(text), at, f)
	}
	if _, f := reach.Reach(h, roots); f != (api.Fault{}) {
		t.Fatalf("%q behind %d: %v %v: %v", short(text), at, h, roots, f)
	}
	p, _ := code.Make(text)
	many := len(p.Classes)
	if len(h.Words) > room || len(roots) < many+1 {
		t.Fatalf("%q behind %d: %v %v", short(text), at, h, roots)
	}
	for i := range many + 1 {
		number := i
		if i == many {
			number = -1
		}
		x, e := heap.Look(h, roots[i])
		if e != api.OK || roots[i] != 4+8*i || x.Class != 0 || x.Form != api.Plain || x.Hash != i+1 || !slices.Equal(x.Slots, []int{2*number + 1}) {
			t.Fatalf("%q behind %d: thing %d is %v, at %d", short(text), at, i, x, roots[i])
		}
	}
	return h, roots
}

// thingsTold answers the things behind the first ones: each by its class and
// the number by which it was made, from 1 on, and what it has.
func thingsTold(p api.Program, h api.Heap) string {
	all, _ := heap.Things(h)
	var out []string
	for _, o := range all[len(p.Classes)+1:] {
		x, _ := heap.Look(h, o)
		var slots []string
		for _, what := range x.Slots {
			slots = append(slots, told(p, h, what))
		}
		out = append(out, told(p, h, o)+"("+strings.Join(slots, ",")+")")
	}
	return strings.Join(out, " ")
}

// heldTold answers what roots are behind the first ones, each once: numbers,
// things, then nil.
func heldTold(p api.Program, h api.Heap, roots []int) string {
	rest := slices.Clone(roots[len(p.Classes)+1:])
	slices.Sort(rest)
	var out []string
	for _, o := range slices.Compact(rest) {
		out = append(out, told(p, h, o))
	}
	slices.Sort(out)
	return strings.Join(out, " ")
}

// told answers what a reference is of.
func told(p api.Program, h api.Heap, o int) string {
	if n, is := word.Value(o); is {
		return digits(n)
	}
	x, e := heap.Look(h, o)
	if e != api.OK {
		return "nil"
	}
	name := "gate"
	if class := (x.Class - 4) / 8; class < len(p.Classes) {
		name = p.Classes[class].Name
	}
	return name + "#" + digits(x.Hash-len(p.Classes)-1)
}

func TestExample(t *testing.T) {
	runs(t, "class a { slot x; } main { var i = 0; while (i < 99) { var t = new a; i = i + 1; } print(i); }", nil, "done 100 99 99")
}

// TestExamplesOfTheWhole are those of the document's front.
func TestExamplesOfTheWhole(t *testing.T) {
	runs(t, "class a { slot x; to put(v) { x = v; } to get() { return x; } } "+
		"main { var p = new a; var q = new a; p.put(1); q.put(2); swap(p, q); print(p.get()); print(p == q); }", nil, "done 11 2 2 0")
	runs(t, "main { var g = gate; fork { signal(g); } wait(g); wait(g); }", nil, "stuck 4 1")
	runs(t, "class a { slot x; } main { while (1) { var t = new a; } }", nil, "out 1500 1500")
	runs(t, "main { var g = gate; fork { print(1); signal(g); } wait(g); print(2); }", nil, "done 6 1 1 2")
}

// TestFirstThings has those that stand on the heap ahead of what is made.
func TestFirstThings(t *testing.T) {
	for text, want := range map[string][]int{
		"main{}":                            {0, 2, 0, 1, 4, -1},
		"main{print(1);}":                   {0, 2, 0, 1, 4, -1},
		"class a{}main{}":                   {0, 3, 0, 1, 4, 1, 0, 2, 4, -1},
		"class b{slot x;}class a:b{}main{}": {0, 4, 0, 1, 4, 1, 0, 2, 4, 3, 0, 3, 4, -1},
	} {
		for _, at := range []int{-1, 0, 1, 99} {
			h, roots := seen(t, text, nil, nil, minRoom, at)
			if !slices.Equal(h.Words, want) {
				t.Errorf("%q: %v %v", text, h, roots)
			}
		}
	}
	text := ""
	for i := range 20 {
		text += "class c" + digits(i) + "{}"
	}
	h, _ := seen(t, text+"main{new c7;}", nil, nil, maxWords, 1)
	if len(h.Words) != 6+4*20+3 || h.Words[6+4*20] != 4+8*7 {
		t.Error(h)
	}
}

// TestThings: each is of its class's thing, with its slots, nil at first.
func TestThings(t *testing.T) {
	h, roots := seen(t, "class a{slot x;}main{new a;gate;}", nil, nil, maxWords, 2)
	if !slices.Equal(h.Words, []int{0, 5, 0, 1, 4, 1, 0, 2, 4, -1, 4, 3, 4, 0, 12, 4, 4, 1}) {
		t.Error(h, roots)
	}
	classes := "class e{}class a{slot x;slot y;to put(v,w){x=v;y=w;}}class b:a{slot z;to z(v){z=v;}}class c:b{}"
	shows(t, classes+"main{new e;new a;new b;new c;}", 4, "e#1() a#2(nil,nil) b#3(nil,nil,nil) c#4(nil,nil,nil)", "")
	do := "main{var p=new b;p.put(3,p);p.z(nil);p.z(-4);var e=new e;p.put(e,nil);}"
	shows(t, classes+do, 1, "b#1(nil,nil,nil)", "3 b#1 nil")
	shows(t, classes+do, 3, "b#1(3,nil,nil)", "3 b#1 nil")
	shows(t, classes+do, 4, "b#1(3,b#1,nil)", "b#1 nil")
	shows(t, classes+do, 8, "b#1(3,b#1,-4)", "b#1 nil")
	shows(t, classes+do, 12, "b#1(e#2,nil,-4) e#2()", "")
	many := "class a{"
	for i := range 59 {
		many += "slot s" + digits(i) + ";"
	}
	h, _ = seen(t, many+"to f(){s58=7;}}main{(new a).f();}", nil, nil, maxWords, 9)
	if len(h.Words) != 10+3+59 || h.Words[10+2] != 59*4 || h.Words[10+3+58] != 15 || h.Words[10+3+57] != 0 {
		t.Error(h)
	}
}

// TestGates: they have one slot, their count.
func TestGates(t *testing.T) {
	text := "main{var g=gate;signal(g);signal(g);wait(g);var h=gate;signal(h);wait(h);wait(g);wait(g);}"
	for at, things := range []string{"", "gate#1(0)", "gate#1(1)", "gate#1(2)", "gate#1(1)", "gate#1(1) gate#2(0)", "gate#1(1) gate#2(1)", "gate#1(1) gate#2(0)", "gate#1(0) gate#2(0)", "gate#1(0) gate#2(0)"} {
		h, _ := seen(t, text, nil, nil, maxWords, at)
		if got := thingsTold(api.Program{}, h); got != things {
			t.Errorf("behind %d: %s, want %s", at, got, things)
		}
	}
	runs(t, text, nil, "stuck 8 2")
	// The slot of a gate is none that can be asked for.
	for _, do := range []string{"return x;", "x=1;"} {
		runs(t, "class a{slot x;to f(o){swap(self,o);"+do+"}}main{(new a).f(gate);}", nil, "fell 5 2")
	}
	runs(t, "class a{to f(){}}main{gate.f();}", nil, "fell 2 1")
	runs(t, "class a{slot x;to f(){}}main{signal(new a);}", nil, "fell 2 1")
	runs(t, "class a{slot x;to f(){}}main{wait(new a);}", nil, "fell 2 1")
}

// TestNumbers: they are small references, the least and the greatest one, too.
func TestNumbers(t *testing.T) {
	text := "class a{slot x;slot y;to put(v,w){x=v;y=w;}to x(){return x;}to y(){return y;}}" +
		"main{var m=1073741823;var l=-m-1;var p=new a;p.put(m,l);print(p.x());print(p.y());print(m);print(l);@}"
	with := func(do string) string { return strings.ReplaceAll(text, "@", do) }
	runs(t, with(""), nil, "done 12 1 1073741823 -1073741824 1073741823 -1073741824")
	for _, do := range []string{"m+1;", "p.x()+1;", "l-1;", "p.y()-1;", "-l;", "-p.y();", "m*m;", "l*-1;"} {
		r, f := model.Run(with(do), nil)
		runs(t, with(do), nil, ends(r))
		if f != (api.Fault{}) || r.Status != api.Fell {
			t.Error(do, ends(r), f)
		}
	}
	h, roots := seen(t, with(""), nil, nil, maxWords, 4)
	if !slices.Equal(h.Words[10:], []int{4, 3, 8, 1<<31 - 1, -1<<31 + 1}) || !slices.Contains(roots, 1<<31-1) || !slices.Contains(roots, -1<<31+1) {
		t.Error(h, roots)
	}
	runs(t, "main{print(0);print(-0);print(7-9);print(3*-5);print(1<2);print(2<1);print(!0);print(!7);print(-(-3));print(nil==nil);print(nil==0);print(4==4);}",
		nil, "done 12 0 0 0 -2 -15 1 0 1 0 3 1 0 1")
}

// TestWhatFallsByItself has reckoning and conditions of what is no number.
func TestWhatFallsByItself(t *testing.T) {
	for _, expr := range []string{"nil+1", "1+nil", "nil-1", "1-nil", "nil*1", "1*nil", "nil<1", "1<nil", "-nil", "!nil"} {
		runs(t, "main{print(0);"+expr+";print(1);}", nil, "fell 2 0 0")
		runs(t, "class a{}main{var n=new a;print(0);"+strings.ReplaceAll(expr, "nil", "n")+";print(1);}", nil, "fell 3 1 0")
	}
	for _, do := range []string{"if(nil){}", "while(nil){}", "if(gate){}", "while(gate){}"} {
		r, _ := model.Run("main{"+do+"print(1);}", nil)
		runs(t, "main{"+do+"print(1);}", nil, ends(r))
	}
	// It is a mark of its own: others may go on until it is picked, and what
	// is being reckoned is held.
	text := "class a{}main{fork{print(1);print(2);}nil+new a;}"
	runs(t, text, []int{0, 0}, "fell 3 1")
	runs(t, text, []int{1, 0, 1}, "fell 5 1 1 2")
	looks(t, text, []int{0, 1, 0}, each(), minRoom, 3, "a#1()", "2 a#1 nil")
	looks(t, text, []int{0, 1, 0}, each(), minRoom, 9, "a#1()", "2 a#1 nil")
}

func TestEndless(t *testing.T) {
	loop := "main{var i=0;while(i<@){i=i+1;}print(i);}"
	runs(t, strings.ReplaceAll(loop, "@", digits(maxRounds-1)), nil, "done 1 0 "+digits(maxRounds-1))
	runs(t, strings.ReplaceAll(loop, "@", digits(maxRounds)), nil, "endless 1 0")
	runs(t, "class a{}main{fork{print(1);}new a;while(1){}}", []int{0, 1}, "endless 4 1 1")
	runs(t, "class a{}main{fork{print(1);}new a;while(1){}}", []int{0, 0}, "endless 3 1")
	runs(t, "main{while(1){print(7);var i=0;while(i<298){i=i+1;}}}", nil, "out 1500 0"+times(" 7", maxMarks))
	runs(t, "main{while(1){print(7);var i=0;while(i<299){i=i+1;}}}", nil, "endless 2 0 7")
}

// TestCalls: what is called is found where the thing's class has it, or one
// that it stands on.
func TestCalls(t *testing.T) {
	a := "class a{to f(){return 1;}to f(x){return 2;}to g(x){return self.f()+x;}to none(){}}"
	b := "class b:a{to f(){return 5;}}class c:b{}class d{}"
	runs(t, a+b+"main{print((new a).g(10));print((new b).g(20));print((new c).g(30));print((new c).f(0));print((new c).none());}", nil, "done 18 5 11 25 35 2 nil")
	for _, call := range []string{"(new a).h()", "(new c).g()", "(new c).g(1,2)", "(new d).f()"} {
		runs(t, a+b+"main{"+call+";}", nil, "fell 2 1")
	}
	runs(t, a+b+"main{nil.f();}", nil, "fell 1 0")
	runs(t, a+b+"main{3.f();}", nil, "fell 1 0")
	deep := "class a{to f(n){if(n<2){return 1;}return 1+self.f(n-1);}}main{var o=new a;fork{print(o.f(@));}}"
	runs(t, strings.ReplaceAll(deep, "@", digits(maxCalls)), nil, "done 43 1 40")
	runs(t, strings.ReplaceAll(deep, "@", digits(maxCalls+1)), nil, "fell 43 1")
	runs(t, "class a{slot x;to f(){x=1;while(1){if(x){x=0;}else{return x;}}}}main{(new a).f();}", nil, "done 7 1")
}

// TestSelfWithoutSuchASlot swaps self for things with fewer slots, as many, and
// more: the number of a slot is that in the class in which the method stands.
func TestSelfWithoutSuchASlot(t *testing.T) {
	text := "class e{}class o{slot k;}class w{slot k;slot l;slot m;to set(){l=7;}}class a{slot x;slot y;" +
		"to getx(o){swap(self,o);print(x);}to gety(o){swap(self,o);print(y);}to putx(o){swap(self,o);x=1;}to puty(o){swap(self,o);y=1;}}main{"
	for _, c := range []struct{ call, made, want string }{
		{"getx", "e", "fell 5 2"}, {"putx", "e", "fell 5 2"}, {"gety", "e", "fell 5 2"}, {"puty", "e", "fell 5 2"},
		{"getx", "o", "done 6 2 nil"}, {"putx", "o", "done 5 2"}, {"gety", "o", "fell 5 2"}, {"puty", "o", "fell 5 2"},
		{"gety", "a", "done 6 2 nil"}, {"puty", "a", "done 5 2"}, {"gety", "w", "done 6 2 nil"}, {"puty", "w", "done 5 2"},
	} {
		runs(t, text+"(new a)."+c.call+"(new "+c.made+");}", nil, c.want)
	}
	runs(t, text+"var w=new w;w.set();(new a).gety(w);}", nil, "done 8 2 7")
	shows(t, text+"(new a).puty(new w);}", 9, "a#1(nil,nil) w#2(nil,1,nil)", "")
}

func TestForks(t *testing.T) {
	runs(t, "main{"+times("fork{}", maxProcs-1)+"print(1);}", nil, "done 8 0 1")
	runs(t, "main{"+times("fork{}", maxProcs)+"print(1);}", nil, "fell 8 0")
	runs(t, "main{var x=1;fork{x=x+1;fork{x=x+10;print(x);}x=x+100;print(x);}var y=2;x=x+y;print(x);}", nil, "done 5 0 3 102 12")
	runs(t, "main{if(1){var x=1;var y=2;}fork{var z=3;var w=4;print(z);print(w);}var v=5;print(v);}", nil, "done 4 0 5 3 4")
	runs(t, "class a{slot x;to f(y){x=y;fork{var me=self;print(me==self);print(x+y);}y=4;return self;}}main{(new a).f(1).f(2);}", nil, "done 13 1 1 3 1 4")
	text := "main{fork{print(1);print(4);}fork{print(2);print(5);}print(3);print(6);}"
	runs(t, text, []int{0, 2, 1, 0}, "done 8 0 2 1 3 6 4 5")
	runs(t, text, []int{-2, -1, -2, -3}, "done 8 0 2 1 3 6 4 5")
	runs(t, text, nil, "done 8 0 3 6 1 4 2 5")
}

func TestWhatIsPrinted(t *testing.T) {
	runs(t, "class a{}class bb:a{}main{print(nil);print(gate);print(new a);print(new bb);print(-7);}", nil, "done 8 3 nil gate a bb -7")
}

// TestFaultsFirst has texts that are no programs, with rooms of all kinds, and
// rooms that can't be.
func TestFaultsFirst(t *testing.T) {
	refused := func(text string, room int, want api.Fault) {
		t.Helper()
		for _, when := range rows() {
			r, f := Run(text, []int{1, 2}, when, room)
			if f != want || ends(r) != "none 0 0" {
				t.Errorf("%q, room %d: %v %v, want %v", short(text), room, r, f, want)
			}
			for _, at := range []int{-1, 0, 1, 1 << 40} {
				h, roots, f := Shown(text, []int{1, 2}, when, room, at)
				if f != want || len(h.Words) != 0 || len(roots) != 0 {
					t.Errorf("%q, room %d, behind %d: %v %v %v, want %v", short(text), room, at, h, roots, f, want)
				}
			}
		}
	}
	size := api.Fault{Code: api.ErrSize}
	for _, room := range []int{minRoom - 1, minRoom, maxWords, maxWords + 1, 0, -1} {
		refused("main{print(x);}", room, api.Fault{Code: api.ErrName, At: 3})
		refused("main{return 1;}", room, api.Fault{Code: api.ErrKind, At: 2})
		refused("main{", room, api.Fault{Code: api.ErrSyntax, At: 5})
		refused("class a{}class a{}main{}", room, api.Fault{Code: api.ErrTwice, At: 2})
		refused(times(" ", 4001), room, size)
	}
	for _, room := range []int{-1 << 63, -2000, -100, -1, 0, 1, 6, 50, minRoom - 1, maxWords + 1, 1 << 20, 1<<63 - 1} {
		refused("main{}", room, size)
		refused("class a{}main{print(new a);}", room, size)
	}
	// So many classes need more room than there has to be anyway.
	for many, least := range map[int]int{22: 100, 23: 100, 24: 102, 25: 106, 350: 1406} {
		text := ""
		for i := range many {
			text += "class " + string(rune('a'+i%26)) + strconv.FormatInt(int64(i/26), 36) + "{}"
		}
		refused(text+"main{}", least-1, size)
		ran(t, text+"main{print(1);}", nil, least, "done 1 0 1")
		seen(t, text+"main{}", nil, nil, least, 0)
	}
}
