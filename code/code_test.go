package code

import (
	"slices"
	"strconv"
	"strings"
	"testing"

	"gesso/api"
	"gesso/check"
)

// words are the orders by their numbers, the first one being 1.
const words = "push nil self gate new load store get put call return add sub mul less same neg not " +
	"print wait signal swap fork jump zero round drop"

// withA are the orders that have a number A.
const withA = " push new load store get put call fork jump zero "

// told is an order as a text: its word, and its numbers, where it has them or
// where they are not 0.
func told(o api.Order) string {
	all := strings.Fields(words)
	if o.Op < 1 || o.Op > len(all) {
		return "?" + strconv.Itoa(o.Op)
	}
	s := all[o.Op-1]
	if strings.Contains(withA, " "+s+" ") || o.A != 0 || o.B != 0 {
		s += " " + strconv.Itoa(o.A)
	}
	if o.Op == api.OCall || o.B != 0 {
		s += " " + strconv.Itoa(o.B)
	}
	return s
}

func toldAll(list []api.Order) string {
	var all []string
	for _, o := range list {
		all = append(all, told(o))
	}
	return strings.Join(all, ", ")
}

// shown is a whole program as a text.
func shown(p api.Program) string {
	s := ""
	for _, c := range p.Classes {
		s += "class " + c.Name + " " + strconv.Itoa(c.Over) + " " + strconv.Itoa(c.Slots)
		for _, m := range c.Methods {
			s += " " + m.Name + "/" + strconv.Itoa(m.Args) + "@" + strconv.Itoa(m.Code)
		}
		s += "\n"
	}
	s += "names " + strings.Join(p.Names, " ") + "\nlocals"
	for _, many := range p.Locals {
		s += " " + strconv.Itoa(many)
	}
	for i, list := range p.Lists {
		s += "\n" + strconv.Itoa(i) + ": " + toldAll(list)
	}
	return s
}

// isZero tells whether a program is the zero one.
func isZero(p api.Program) bool {
	return len(p.Classes) == 0 && len(p.Names) == 0 && len(p.Lists) == 0 && len(p.Locals) == 0
}

// short answers the front of text, so that what is told stays short.
func short(text string) string { return text[:min(len(text), 200)] }

// made answers the program of text, which is one.
func made(t *testing.T, text string) api.Program {
	t.Helper()
	p, f := Make(text)
	if f != (api.Fault{}) {
		t.Fatalf("%q: %v", short(text), f)
	}
	return p
}

// refused asks that Make answers that fault, and nothing else.
func refused(t *testing.T, text string, code api.Errno, at int) {
	t.Helper()
	if p, f := Make(text); f != (api.Fault{Code: code, At: at}) || !isZero(p) {
		t.Errorf("%q: %s %v, want %d at %d", short(text), shown(p), f, code, at)
	}
}

// listsAre asks that the program of text has those lists, and no others.
func listsAre(t *testing.T, text string, want ...string) {
	t.Helper()
	var got []string
	for _, list := range made(t, text).Lists {
		got = append(got, toldAll(list))
	}
	if !slices.Equal(got, want) {
		t.Errorf("%q:\n%s\nwant\n%s", text, strings.Join(got, "\n"), strings.Join(want, "\n"))
	}
}

// mainIs asks that main of those statements has just those orders, and that
// there is no other list.
func mainIs(t *testing.T, statements, want string) {
	t.Helper()
	listsAre(t, "main{"+statements+"}", want)
}

// methodIs asks that a method of those statements, in a class with the slots p
// and q, has just those orders and ONil, OReturn.
func methodIs(t *testing.T, statements, want string) {
	t.Helper()
	listsAre(t, "class a{slot p;slot q;to f(x,y){"+statements+"}}main{}", "", want+"nil, return")
}

func localsAre(t *testing.T, text string, want ...int) {
	t.Helper()
	if p := made(t, text); !slices.Equal(p.Locals, want) || len(p.Lists) != len(want) {
		t.Errorf("%q: %v of %d lists, want %v", short(text), p.Locals, len(p.Lists), want)
	}
}

func namesAre(t *testing.T, text, want string) {
	t.Helper()
	if got := made(t, text).Names; strings.Join(got, " ") != want {
		t.Errorf("%q: %q, want %s", text, got, want)
	}
}

// classesAre asks that the program of text has those classes, as shown tells
// them.
func classesAre(t *testing.T, text string, want ...string) {
	t.Helper()
	p := made(t, text)
	got := strings.Split(shown(api.Program{Classes: p.Classes}), "\n")
	if !slices.Equal(got[:len(p.Classes)], want) {
		t.Errorf("%q: %q, want %q", text, got[:len(p.Classes)], want)
	}
}

func TestExample(t *testing.T) {
	p := made(t, "main { print(1 + 2); }")
	want := []api.Order{{Op: api.OPush, A: 1}, {Op: api.OPush, A: 2}, {Op: api.OAdd}, {Op: api.OPrint}}
	if len(p.Lists) != 1 || !slices.Equal(p.Lists[0], want) {
		t.Error(p)
	}
}

// TestExampleOfTheWhole has a program with something of everything.
func TestExampleOfTheWhole(t *testing.T) {
	p := made(t, "class a { slot x; to put(v) { x = v; } to get() { return x; } } class b : a { slot y; } "+
		"main { var p = new a; var q = new b; p.put(1); fork { var r = p; print(r.get()); } swap(p, q); print(p == q); }")
	want := `class a -1 1 put/1@1 get/0@2
class b 0 2
names put get
locals 2 1 0 3
0: new 0, store 0, new 1, store 1, load 0, push 1, call 0 1, drop, fork 3, load 0, load 1, swap, load 0, load 1, same, print
1: load 0, put 0, nil, return
2: get 0, return, nil, return
3: load 0, store 2, load 2, call 1 0, print`
	if shown(p) != want {
		t.Errorf("%s\nwant\n%s", shown(p), want)
	}
}

func TestNothing(t *testing.T) {
	for _, text := range []string{"main{}", "main { }", "# nothing\nmain\n{ # at all\n}"} {
		p := made(t, text)
		if len(p.Classes) != 0 || len(p.Names) != 0 || len(p.Lists) != 1 || len(p.Lists[0]) != 0 || !slices.Equal(p.Locals, []int{0}) {
			t.Errorf("%q: %v", text, p)
		}
	}
}

func TestClasses(t *testing.T) {
	classesAre(t, "class a{}main{}", "class a -1 0")
	classesAre(t, "class a{slot x;slot y;}class b{}class c{slot x;}main{}", "class a -1 2", "class b -1 0", "class c -1 1")
	classesAre(t, "class b{to b(b){}}class a{to b(a,b,c){}}main{}", "class b -1 0 b/1@1", "class a -1 0 b/3@2")
}

// TestOverAndSlots has classes that stand on others, and counts what they have
// in all.
func TestOverAndSlots(t *testing.T) {
	classesAre(t, "class a{}class b:a{}main{}", "class a -1 0", "class b 0 0")
	classesAre(t, "class a{slot x;}class b:a{slot y;slot z;}main{}", "class a -1 1", "class b 0 3")
	classesAre(t, "class a{slot x;}class b:a{slot y;}class c:b{slot z;}class d:c{}class e:a{slot u;slot v;slot w;}main{}",
		"class a -1 1", "class b 0 2", "class c 1 3", "class d 2 3", "class e 0 4")
	classesAre(t, "class d{slot x;}class z{}class c:d{}class b:c{slot y;}class a:d{slot y;}class e:b{slot z;}class f:a{}main{}",
		"class d -1 1", "class z -1 0", "class c 0 1", "class b 2 2", "class a 0 2", "class e 3 3", "class f 4 2")
}

// TestCode has classes without methods between classes with some.
func TestCode(t *testing.T) {
	classesAre(t, "class a{to f(){}to g(){}}class b{}class c:a{slot x;}class d:c{to h(){}}class e{}class f:e{to f(){}to e(){}}main{}",
		"class a -1 0 f/0@1 g/0@2", "class b -1 0", "class c 0 1", "class d 2 1 h/0@3", "class e -1 0", "class f 4 0 f/0@4 e/0@5")
	// The lists lie there, forks' behind all of them.
	listsAre(t, "class a{to f(){1;}to g(){fork{2;}}}class b{}class c{to h(){3;}}main{fork{4;}}",
		"fork 4", "push 1, drop, nil, return", "fork 5, nil, return", "push 3, drop, nil, return", "push 4, drop", "push 2, drop")
}

// TestMethodsOfOneName has more or fewer names in parentheses.
func TestMethodsOfOneName(t *testing.T) {
	text := "class a{to f(){return 0;}to f(x,y){return y;}to f(x){return x;}to g(x){}}class b:a{to f(z){return 7;}}main{}"
	classesAre(t, text, "class a -1 0 f/0@1 f/2@2 f/1@3 g/1@4", "class b 0 0 f/1@5")
	listsAre(t, text, "", "push 0, return, nil, return", "load 1, return, nil, return", "load 0, return, nil, return",
		"nil, return", "push 7, return, nil, return")
	localsAre(t, text, 0, 0, 2, 1, 1, 1)
}

// TestClassesAhead makes things of classes that stand behind.
func TestClassesAhead(t *testing.T) {
	listsAre(t, "class a{to f(){return new c;}}class b:a{to g(){new b;new a;fork{new c;}}}class c{}main{new c;new a;}",
		"new 2, drop, new 0, drop", "new 2, return, nil, return", "new 1, drop, new 0, drop, fork 3, nil, return", "new 2, drop")
}

func TestForksOfMain(t *testing.T) {
	listsAre(t, "main{fork{}}", "fork 1", "")
	listsAre(t, "main{fork{1;}fork{2;}3;fork{3;}}", "fork 1, fork 2, push 3, drop, fork 3", "push 1, drop", "push 2, drop", "push 3, drop")
	listsAre(t, "main{if(1){fork{1;}}else{fork{2;}}fork{3;}}", "push 1, zero 4, fork 1, jump 5, fork 2, fork 3",
		"push 1, drop", "push 2, drop", "push 3, drop")
	listsAre(t, "main{while(1){fork{1;}}fork{2;}}", "round, push 1, zero 5, fork 1, jump 0, fork 2", "push 1, drop", "push 2, drop")
}

// TestForksInForks goes over what is in a fork where the fork stands.
func TestForksInForks(t *testing.T) {
	listsAre(t, "main{fork{fork{2;}1;}}", "fork 1", "fork 2, push 1, drop", "push 2, drop")
	listsAre(t, "main{fork{1;fork{2;fork{3;}}fork{4;}}fork{5;}}", "fork 1, fork 5", "push 1, drop, fork 2, fork 4",
		"push 2, drop, fork 3", "push 3, drop", "push 4, drop", "push 5, drop")
	listsAre(t, "main{fork{if(1){fork{2;}}while(3){fork{3;}}}fork{4;}}", "fork 1, fork 4",
		"push 1, zero 3, fork 2, round, push 3, zero 8, fork 3, jump 3", "push 2, drop", "push 3, drop", "push 4, drop")
}

// TestForksOfMethods have their numbers behind main's, though main stands last.
func TestForksOfMethods(t *testing.T) {
	listsAre(t, "class a{to f(){fork{5;fork{6;}}fork{7;}}to g(){}}class b{to h(){fork{8;}}}main{fork{4;}}",
		"fork 4", "fork 5, fork 7, nil, return", "nil, return", "fork 8, nil, return",
		"push 4, drop", "push 5, drop, fork 6", "push 6, drop", "push 7, drop", "push 8, drop")
	// self and slots are those of the method.
	listsAre(t, "class a{slot p;slot q;to f(x){fork{self;q=x;fork{print(p);}}}}main{}",
		"", "fork 2, nil, return", "self, drop, load 0, put 1, fork 3", "get 0, print")
}

func TestLocalsOfLists(t *testing.T) {
	localsAre(t, "main{1;}", 0)
	localsAre(t, "main{var x=1;}", 1)
	localsAre(t, "main{var x=1;x=2;var y=x;print(x);}", 2)
	localsAre(t, "class a{to f(){}to g(x){}to h(x,y,z){return y;}to i(x,y){var z=1;}}main{var x=1;}", 1, 0, 1, 3, 3)
}

// TestLocalsOfBlocks are free again behind them.
func TestLocalsOfBlocks(t *testing.T) {
	localsAre(t, "main{if(1){var x=1;var y=1;}}", 2)
	localsAre(t, "main{if(1){var x=1;var y=1;}var z=1;}", 2)
	localsAre(t, "main{if(1){var x=1;}var y=1;var z=1;}", 2)
	localsAre(t, "main{if(1){var x=1;}else{var y=1;var z=1;}}", 2)
	localsAre(t, "main{if(1){var x=1;var y=1;}else{var z=1;}while(1){var x=1;}}", 2)
	localsAre(t, "main{var x=1;while(x){var x=2;if(x){var x=3;}var y=4;}var y=5;}", 3)
	localsAre(t, "main{var x=1;while(x){var x=2;if(x){var x=3;}else{var y=1;var z=1;}}var y=5;}", 4)
	localsAre(t, "class a{to f(x,y){if(x){var x=1;}if(y){var y=1;}}}main{}", 0, 3)
}

// TestLocalsOfForks begin with all that are there at the fork, and are not
// those of the list in which the fork stands.
func TestLocalsOfForks(t *testing.T) {
	localsAre(t, "main{fork{}var x=1;}", 1, 0)
	localsAre(t, "main{var x=1;fork{}var y=1;}", 2, 1)
	localsAre(t, "main{fork{var x=1;var y=1;}}", 0, 2)
	localsAre(t, "main{var x=1;fork{var x=1;fork{var x=1;}var y=1;}var y=1;fork{}}", 2, 3, 3, 2)
	localsAre(t, "main{if(1){var x=1;fork{}}fork{var y=1;if(1){var z=1;}}}", 1, 1, 2)
	localsAre(t, "class a{to f(x,y){fork{}var z=1;fork{var v=1;}}to g(){fork{}}}main{var x=1;fork{}}", 1, 3, 0, 1, 2, 4, 0)
}

func TestNumbersOfLocals(t *testing.T) {
	mainIs(t, "var x=1;var y=2;x=3;y=4;print(x);print(y);",
		"push 1, store 0, push 2, store 1, push 3, store 0, push 4, store 1, load 0, print, load 1, print")
	methodIs(t, "var z=3;x=4;y=5;z=6;", "push 3, store 2, push 4, store 0, push 5, store 1, push 6, store 2, ")
	// Those of a block are free again behind it.
	mainIs(t, "if(1){var x=2;var y=3;}var z=4;var y=5;print(z);",
		"push 1, zero 6, push 2, store 0, push 3, store 1, push 4, store 0, push 5, store 1, load 0, print")
	mainIs(t, "if(1){var x=2;}else{var y=3;}while(4){var z=5;}var x=6;",
		"push 1, zero 5, push 2, store 0, jump 7, push 3, store 0, round, push 4, zero 13, push 5, store 0, jump 7, push 6, store 0")
	// A fork goes on from those that are there, and so does what is behind it.
	listsAre(t, "main{var x=1;fork{var y=x;var z=y;}var z=x;fork{print(z);}}",
		"push 1, store 0, fork 1, load 0, store 1, fork 2", "load 0, store 1, load 1, store 2", "load 1, print")
	listsAre(t, "class a{to f(x,y){fork{var z=y;fork{x=z;}}}}main{}",
		"", "fork 2, nil, return", "load 1, store 2, fork 3", "load 2, store 0")
}

// TestLocalsThatHideOthers has the outer one again behind the block.
func TestLocalsThatHideOthers(t *testing.T) {
	mainIs(t, "var x=1;if(x){print(x);var x=2;x=3;print(x);}print(x);x=4;",
		"push 1, store 0, load 0, zero 12, load 0, print, push 2, store 1, push 3, store 1, load 1, print, load 0, print, push 4, store 0")
	listsAre(t, "main{var x=1;fork{x=2;var x=3;x=4;}x=5;}",
		"push 1, store 0, fork 1, push 5, store 0", "push 2, store 0, push 3, store 1, push 4, store 1")
	mainIs(t, "var x=1;if(2){var y=3;var x=4;if(5){var x=6;x;}x;}x;",
		"push 1, store 0, push 2, zero 16, push 3, store 1, push 4, store 2, push 5, zero 14, push 6, store 3, load 3, drop, "+
			"load 2, drop, load 0, drop")
	methodIs(t, "if(1){var y=2;y=x;}y=3;", "push 1, zero 6, push 2, store 2, load 0, store 2, push 3, store 1, ")
}

// TestLocalsThatHideSlots has the slot again behind the block.
func TestLocalsThatHideSlots(t *testing.T) {
	methodIs(t, "print(q);if(1){var q=2;q=3;print(q);}q=4;print(q);",
		"get 1, print, push 1, zero 10, push 2, store 2, push 3, store 2, load 2, print, push 4, put 1, get 1, print, ")
	listsAre(t, "class a{slot x;slot y;to f(y){x=y;y=x;}to g(x){x=y;y=x;}}main{}",
		"", "load 0, put 0, get 0, store 0, nil, return", "get 1, store 0, load 0, put 1, nil, return")
	// Slots of the class that it stands on come first.
	listsAre(t, "class a{slot x;slot y;}class b:a{slot z;to f(){z=x;y=z;}}class c:b{slot w;to f(){w=z;x=y;}}main{}",
		"", "get 0, put 2, get 2, put 1, nil, return", "get 2, put 3, get 1, put 0, nil, return")
}

// TestVarsOfTheirOwnNames have exprs that name an outer one.
func TestVarsOfTheirOwnNames(t *testing.T) {
	mainIs(t, "var x=1;if(2){var x=x+x;x;}", "push 1, store 0, push 2, zero 10, load 0, load 0, add, store 1, load 1, drop")
	listsAre(t, "main{var x=1;fork{var x=x;x=x;}}", "push 1, store 0, fork 1", "load 0, store 1, load 1, store 1")
	methodIs(t, "var q=q;q=q;", "get 1, store 2, load 2, store 2, ")
	methodIs(t, "if(1){var x=x;var p=p;p=x;}p=x;",
		"push 1, zero 8, load 0, store 2, get 0, store 3, load 2, store 3, load 0, put 0, ")
}

// TestEachOrder has the orders of the table, with their numbers.
func TestEachOrder(t *testing.T) {
	mainIs(t, "0;7;1073741823;", "push 0, drop, push 7, drop, push 1073741823, drop")
	mainIs(t, "nil;gate;", "nil, drop, gate, drop")
	methodIs(t, "self;", "self, drop, ")
	listsAre(t, "class a{}class b{}class c{}main{new b;new c;new a;}", "new 1, drop, new 2, drop, new 0, drop")
	mainIs(t, "1+2;1-2;1*2;1<2;1==2;", "push 1, push 2, add, drop, push 1, push 2, sub, drop, push 1, push 2, mul, drop, "+
		"push 1, push 2, less, drop, push 1, push 2, same, drop")
	mainIs(t, "-1;!2;", "push 1, neg, drop, push 2, not, drop")
	mainIs(t, "print(1);wait(2);signal(3);swap(4,5);", "push 1, print, push 2, wait, push 3, signal, push 4, push 5, swap")
	methodIs(t, "x;p;x=q;p=y;", "load 0, drop, get 0, drop, get 1, store 0, load 1, put 0, ")
	methodIs(t, "return y;", "load 1, return, ")
	mainIs(t, "nil.f();nil.g(1);nil.f(1,2,3);", "nil, call 0 0, drop, nil, push 1, call 1 1, drop, nil, push 1, push 2, push 3, call 0 3, drop")
}

func TestNames(t *testing.T) {
	namesAre(t, "class f{slot g;to h(i){}}main{var j=1;j;}", "")
	namesAre(t, "main{nil.f();nil.g();nil.f();nil.F();}", "f g F")
	// The same name with other numbers of exprs is one.
	namesAre(t, "main{nil.f();nil.g(1);nil.f(1);nil.g();nil.f(1,2);}", "f g")
	mainIs(t, "nil.f();nil.g(1);nil.f(1);nil.g();",
		"nil, call 0 0, drop, nil, push 1, call 1 1, drop, nil, push 1, call 0 1, drop, nil, call 1 0, drop")
	// Those that no method has, too, but none of methods that no call names.
	namesAre(t, "class a{to f(){}to g(){nil.h();}}main{gate.i();}", "i h")
}

// TestNamesAsTheyAreMet: main first, and what is in a fork where it stands; a
// call's own name when its order is written.
func TestNamesAsTheyAreMet(t *testing.T) {
	namesAre(t, "class a{to f(){nil.c();fork{nil.d();}nil.e();}to g(){nil.f();}}class b{to h(){nil.g();nil.a();}}main{nil.a();nil.b();}",
		"a b c d e f g")
	namesAre(t, "main{fork{nil.a();fork{nil.b();}nil.c();}nil.d();fork{nil.e();}nil.f();}", "a b c d e f")
	namesAre(t, "main{nil.a().b().c();}", "a b c")
	namesAre(t, "main{nil.c(nil.a(),nil.b());}", "a b c")
	namesAre(t, "main{nil.a().d(nil.b().c());}", "a b c d")
	namesAre(t, "main{if(nil.a()){nil.b();}else{nil.c();}while(nil.d()){nil.e();}swap(nil.f(),nil.g());}", "a b c d e f g")
}

func TestExpressions(t *testing.T) {
	mainIs(t, "1-2-3;1-(2-3);", "push 1, push 2, sub, push 3, sub, drop, push 1, push 2, push 3, sub, sub, drop")
	mainIs(t, "1+2*3<-4;", "push 1, push 2, push 3, mul, add, push 4, neg, less, drop")
	mainIs(t, "!-!1==(2<3);", "push 1, not, neg, not, push 2, push 3, less, same, drop")
	mainIs(t, "nil.f(1+2,gate.g(3)).f(-4);",
		"nil, push 1, push 2, add, gate, push 3, call 0 1, call 1 2, push 4, neg, call 1 1, drop")
	listsAre(t, "class a{}main{print(new a.f(new a));}", "new 0, new 0, call 0 1, print")
}

func TestIf(t *testing.T) {
	mainIs(t, "if(1){2;}3;", "push 1, zero 4, push 2, drop, push 3, drop")
	mainIs(t, "if(1){2;}else{3;}4;", "push 1, zero 5, push 2, drop, jump 7, push 3, drop, push 4, drop")
	// Behind the last order.
	mainIs(t, "if(1){2;}", "push 1, zero 4, push 2, drop")
	mainIs(t, "if(1){2;}else{3;}", "push 1, zero 5, push 2, drop, jump 7, push 3, drop")
	// Empty blocks.
	mainIs(t, "if(1){}", "push 1, zero 2")
	mainIs(t, "if(1){}else{}", "push 1, zero 3, jump 3")
	mainIs(t, "if(1){}else{2;}", "push 1, zero 3, jump 5, push 2, drop")
	mainIs(t, "if(1){2;}else{}3;", "push 1, zero 5, push 2, drop, jump 5, push 3, drop")
	methodIs(t, "if(x){}else{}", "load 0, zero 3, jump 3, ")
}

func TestIfsInOneAnother(t *testing.T) {
	mainIs(t, "if(1){2;}else{if(3){4;}else{5;}}6;",
		"push 1, zero 5, push 2, drop, jump 12, push 3, zero 10, push 4, drop, jump 12, push 5, drop, push 6, drop")
	mainIs(t, "if(1){if(2){3;}}else{if(4){5;}}",
		"push 1, zero 7, push 2, zero 6, push 3, drop, jump 11, push 4, zero 11, push 5, drop")
	mainIs(t, "if(1){if(2){if(3){}}}", "push 1, zero 6, push 2, zero 6, push 3, zero 6")
	mainIs(t, "9;if(1){if(2){3;}else{4;}5;}", "push 9, drop, push 1, zero 13, push 2, zero 9, push 3, drop, jump 11, push 4, drop, push 5, drop")
}

func TestWhile(t *testing.T) {
	mainIs(t, "while(1){2;}3;", "round, push 1, zero 6, push 2, drop, jump 0, push 3, drop")
	mainIs(t, "while(1){}", "round, push 1, zero 4, jump 0")
	mainIs(t, "9;while(1+2){}", "push 9, drop, round, push 1, push 2, add, zero 8, jump 2")
	mainIs(t, "while(1){while(2){3;}4;}",
		"round, push 1, zero 12, round, push 2, zero 9, push 3, drop, jump 3, push 4, drop, jump 0")
	mainIs(t, "while(1){while(2){}}while(3){}", "round, push 1, zero 8, round, push 2, zero 7, jump 3, jump 0, round, push 3, zero 12, jump 8")
	mainIs(t, "while(1){if(2){}else{}}", "round, push 1, zero 7, push 2, zero 6, jump 6, jump 0")
	mainIs(t, "if(1){while(2){}}else{while(3){}}", "push 1, zero 7, round, push 2, zero 6, jump 2, jump 11, round, push 3, zero 11, jump 7")
	listsAre(t, "main{1;fork{while(2){}}}", "push 1, drop, fork 1", "round, push 2, zero 4, jump 0")
}

func TestReturn(t *testing.T) {
	methodIs(t, "", "")
	methodIs(t, "1;", "push 1, drop, ")
	methodIs(t, "return 1;", "push 1, return, ")
	methodIs(t, "return 1;2;return 3;", "push 1, return, push 2, drop, push 3, return, ")
	methodIs(t, "if(1){return 2;}else{return 3;}", "push 1, zero 5, push 2, return, jump 7, push 3, return, ")
	methodIs(t, "while(1){return nil;}", "round, push 1, zero 6, nil, return, jump 0, ")
	methodIs(t, "return self.f(x,y);", "self, load 0, load 1, call 0 2, return, ")
}

// TestFaultsOfCheckFirst has each fault that check.Check tells, and nothing
// beside it.
func TestFaultsOfCheckFirst(t *testing.T) {
	refused(t, "", api.ErrSyntax, 0)
	refused(t, "main { print(1; }", api.ErrSyntax, 14)
	refused(t, "main { x > 7; }", api.ErrRune, 9)
	refused(t, "main { 07; }", api.ErrForm, 7)
	refused(t, "main { 1073741824; }", api.ErrForm, 7)
	refused(t, "main{"+strings.Repeat("(", 20)+"1"+strings.Repeat(")", 20)+";}", api.ErrDeep, 24)
	refused(t, "main{}"+strings.Repeat(" ", 3995), api.ErrSize, 0)
	refused(t, "main{"+strings.Repeat("1;", 300)+"}", api.ErrSize, 0)
	refused(t, "class a { to f ( x ) { var x = 1 ; } } main { }", api.ErrTwice, 5)
	refused(t, "class a{}class a{}main{}", api.ErrTwice, 2)
	refused(t, "class a:b{}class b{}main{}", api.ErrName, 2)
	refused(t, "main{print(x);}", api.ErrName, 3)
	refused(t, "main{fork{1;}new a;}", api.ErrName, 7)
	refused(t, "main{self;}", api.ErrKind, 3)
	refused(t, "class a{to f(){fork{return 1;}}}main{}", api.ErrKind, 6)
}

// TestFaultsAreThoseOfCheck has texts that are no programs, whatever is wrong.
func TestFaultsAreThoseOfCheck(t *testing.T) {
	for _, text := range []string{"main", "{}", "class", "main{}main{}", "main{x=1;}", "class a{slot x;slot x;}main{}", "\xff", "main{var x=x;}"} {
		_, want := check.Check(text)
		refused(t, text, want.Code, want.At)
		if want.Code == api.OK {
			t.Errorf("%q is a program", text)
		}
	}
}
