package check

import (
	"strconv"
	"strings"
	"testing"

	"gesso/api"
	"gesso/syntax"
)

// The limits stand here as plain digits, so that a slip in how the program
// works them out is seen.
const (
	maxText   = 4000
	maxSize   = 60
	maxNodes  = 600
	maxLocals = 30
)

// shown is a node as a text: its kind, its text, its number and its kids.
func shown(n api.Node) string {
	s := strconv.Itoa(n.Kind) + ":" + n.Text + "#" + strconv.Itoa(n.Num) + "("
	for _, kid := range n.Kids {
		s += shown(kid)
	}
	return s + ")"
}

// isZero tells whether a node is the zero one.
func isZero(n api.Node) bool { return n.Kind == 0 && n.Text == "" && n.Num == 0 && len(n.Kids) == 0 }

// short answers the front of text, so that what is told stays short.
func short(text string) string { return text[:min(len(text), 200)] }

// times answers text so many times.
func times(text string, many int) string { return strings.Repeat(text, many) }

// taken asks that Check answers the node of text.
func taken(t *testing.T, text string) {
	t.Helper()
	want, f := syntax.Parse(text)
	if f != (api.Fault{}) {
		t.Fatalf("%q is not parsed: %v", short(text), f)
	}
	if n, f := Check(text); f != (api.Fault{}) || shown(n) != shown(want) {
		t.Errorf("%q: %s %v", short(text), short(shown(n)), f)
	}
}

// refused asks that Check answers that fault, and nothing else.
func refused(t *testing.T, text string, code api.Errno, at int) {
	t.Helper()
	if n, f := Check(text); f != (api.Fault{Code: code, At: at}) || !isZero(n) {
		t.Errorf("%q: %s %v, want %d at %d", short(text), short(shown(n)), f, code, at)
	}
}

func TestExample(t *testing.T) {
	refused(t, "class a { to f ( x ) { var x = 1 ; } } main { }", api.ErrTwice, 5)
}

// TestExamplesOfTheDocument takes the programs of its chapters.
func TestExamplesOfTheDocument(t *testing.T) {
	for _, text := range []string{
		"class a { slot x; to put(v) { x = v; } to get() { return x; } } " +
			"main { var p = new a; var q = new a; p.put(1); q.put(2); swap(p, q); print(p.get()); print(p == q); }",
		"main { var g = gate; fork { signal(g); } wait(g); wait(g); }",
		"class a { slot x; } main { while (1) { var t = new a; } }",
		"main { var g = gate; fork { print(1); signal(g); } wait(g); print(2); }",
		"class a { slot x; } main { var i = 0; while (i < 99) { var t = new a; i = i + 1; } print(i); }",
		"class a { to f() { } to g() { } } main { (new a).g(); }",
		"main { print(1 - 2 * 3); }",
		"main { print((1+2)*3); }",
	} {
		taken(t, text)
	}
}

func TestOrdinaryTexts(t *testing.T) {
	for _, text := range []string{
		"main{}",
		" # nothing\nmain\n{\t} # end",
		"class a{}class b:a{}class c:a{}class d:c{}main{}",
		"class a{slot x;slot y;to f(){return x+y;}to f(x){y=x;}to g(p,q){return self.f(p)-q;}}main{var v=new a;print(v.f());}",
		"class a{slot a;to a(b){a=b;}}main{var a=new a;a.a(a);}",
		"main{var x=1;if(x<2){x=3;}else{x=-x;}while(!x){var y=x;x=y*y;}}",
		"main{nil.f();gate;(1).g(nil,2);swap(nil,gate);wait(1);signal(nil);nil.self_();}",
		"class a{to f(){fork{fork{var me=self;print(me==self);}}return nil;}}main{}",
	} {
		taken(t, text)
	}
}

// TestFaultsOfParseFirst has a fault of the text behind others of names.
func TestFaultsOfParseFirst(t *testing.T) {
	refused(t, "", api.ErrSyntax, 0)
	refused(t, "main", api.ErrSyntax, 4)
	refused(t, "main { x; ? }", api.ErrRune, 10)
	refused(t, "main { x; 07; }", api.ErrForm, 10)
	refused(t, "main { x; y }", api.ErrSyntax, 12)
	refused(t, "class a : a { } main { self; return 1; } }", api.ErrSyntax, 41)
	refused(t, "main{x;"+times("(", 20)+"1"+times(")", 20)+";}", api.ErrDeep, 26)
	refused(t, "class a:b{}main{}"+times(" ", maxText-16), api.ErrSize, 0)
	refused(t, "class a:b{}main{}"+times(" ", maxText-17), api.ErrName, 2)
	refused(t, "main{"+times("x;", maxNodes/2)+"}", api.ErrSize, 0)
	refused(t, "main{"+times("x;", maxNodes/2-1)+"}", api.ErrName, 3)
	refused(t, "main{"+times("1;", maxNodes/2-2)+"x;}", api.ErrName, maxNodes-1)
}

func TestClassesOfOneName(t *testing.T) {
	refused(t, "class a{}class a{}main{}", api.ErrTwice, 2)
	refused(t, "class a{}class b{}class a{}main{}", api.ErrTwice, 3)
	refused(t, "class b{}class a{slot x;slot y;}class c:a{}class a{slot z;}main{x;}", api.ErrTwice, 7)
	refused(t, "class a{}class a:a{}main{}", api.ErrTwice, 2)
	refused(t, "class a{}class a:b{}main{}", api.ErrTwice, 2)
	refused(t, "class a{slot x;}class a{slot x;slot x;}main{}", api.ErrTwice, 3)
	refused(t, "class a{to f(){}}class b{}class b{}class a{}main{}", api.ErrTwice, 5)
	taken(t, "class a{}class A{}class aa{}class a_{}class _a{}main{}")
	taken(t, "class a{slot a;to a(a){a=new a;}}class b{slot a;to a(b){b=a;}}main{var a=1;var b=new b;}")
}

func TestClassesThatStandOnOthers(t *testing.T) {
	refused(t, "class a:b{}main{}", api.ErrName, 2)
	refused(t, "class a:a{}main{}", api.ErrName, 2)
	refused(t, "class a:b{}class b{}main{}", api.ErrName, 2)
	refused(t, "class a{}class b:c{}class c{}main{}", api.ErrName, 3)
	refused(t, "class a{slot x;to f(x){}}class b:x{}main{}", api.ErrName, 7)
	refused(t, "class a{}class b:a{}class c:f{}main{}", api.ErrName, 5)
	refused(t, "class a:b{slot x;slot x;}main{}", api.ErrName, 2)
	refused(t, "class a:A{}main{}", api.ErrName, 2)
	taken(t, "class a{}class b:a{}main{}")
	taken(t, "class c{}class b:c{}class a:b{}class d:c{}main{}")
}

func TestSlotsOfOneName(t *testing.T) {
	refused(t, "class a{slot x;slot x;}main{}", api.ErrTwice, 3)
	refused(t, "class a{slot x;slot y;slot z;slot y;slot x;}main{}", api.ErrTwice, 5)
	refused(t, "class a{slot x;}class b:a{slot x;}main{}", api.ErrTwice, 5)
	refused(t, "class a{slot x;}class b:a{}class c:b{slot y;slot x;}main{}", api.ErrTwice, 8)
	refused(t, "class a{slot x;}class b:a{slot y;}class c:b{slot z;}class d:c{slot w;slot y;}main{}", api.ErrTwice, 12)
	refused(t, "class a{slot x;}class b:a{slot y;}class c:a{slot z;slot x;slot y;}main{}", api.ErrTwice, 9)
	taken(t, "class a{slot x;}class b{slot x;}class c:a{slot y;}class d:a{slot y;}class e:b{slot y;}main{}")
	taken(t, "class a{slot x;}class b:a{slot y;slot z;}class c:a{slot z;slot y;}class d:b{slot w;}class e:b{slot v;}main{}")
	taken(t, "class a{slot x;slot X;slot xx;slot a;slot f;to f(){}}main{}")
}

// TestListsOfSlotsAreApart has classes that stand on one whose list of slots
// has room behind it: what the one adds is not the other one's.
func TestListsOfSlotsAreApart(t *testing.T) {
	a, at := "class a{", 1
	for i := range 9 {
		a += "slot s" + strconv.Itoa(i) + ";"
		at++
		taken(t, a+"}class b:a{slot x;to f(){return x;}}class c:a{slot y;to f(){return y;}}class d:b{to f(){return x;}}main{}")
		refused(t, a+"}class b:a{slot x;}class c:a{slot y;}class d:b{to f(){return y;}}main{}", api.ErrName, at+12)
		refused(t, a+"}class b:a{slot x;}class c:a{slot y;to f(){return x;}}main{}", api.ErrName, at+10)
	}
}

func TestMethodsOfOneName(t *testing.T) {
	refused(t, "class a{to f(){}to f(){}}main{}", api.ErrTwice, 4)
	refused(t, "class a{to f(x){}to f(y){}}main{}", api.ErrTwice, 5)
	refused(t, "class a{to f(x,y){}to g(){}to f(x){}to f(v,w){}}main{}", api.ErrTwice, 11)
	refused(t, "class a{}class b:a{slot x;to f(){1;}to f(){2;}}main{}", api.ErrTwice, 9)
	taken(t, "class a{to f(){}to f(x){}to f(x,y){}to g(){}to g(x){}to F(){}}main{}")
	taken(t, "class a{to f(){}}class b:a{to f(){}}class c{to f(){}}class d:c{to f(){}to f(x){}}main{}")
	taken(t, "class a{to main_(){}to a(a){}to x1(){}to x(x){}to x(){}to x11(){}}main{}")
}

// TestTwoMethodsAheadOfWhatIsInThem has faults in methods of one name.
func TestTwoMethodsAheadOfWhatIsInThem(t *testing.T) {
	refused(t, "class a{to f(){}to f(){z;}}main{}", api.ErrTwice, 4)
	refused(t, "class a{to f(x,y){}to f(x,x){}}main{}", api.ErrTwice, 6)
	refused(t, "class a{to f(){}to f(){var x=y;var x=1;}}main{}", api.ErrTwice, 4)
	refused(t, "class a{to f(){z;}to f(){}}main{}", api.ErrName, 5)
	refused(t, "class a{to f(){}to g(){z;}to f(){}}main{}", api.ErrName, 7)
	refused(t, "class a{slot x;slot x;to f(){}to f(){}}main{}", api.ErrTwice, 3)
	many := args("n", maxLocals)
	refused(t, "class a{to f("+many+"){}to f("+many+"){var x=1;}}main{}", api.ErrTwice, 4+maxLocals)
	refused(t, "class a{to f("+many+",x){}to f("+many+",y){}}main{}", api.ErrSize, 3+maxLocals)
}

func TestNamesInParenthesesTwice(t *testing.T) {
	refused(t, "class a{to f(x,x){}}main{}", api.ErrTwice, 4)
	refused(t, "class a{to f(x,y,z,y,x){}}main{}", api.ErrTwice, 6)
	refused(t, "class a{to f(x,y,y){z;}to f(x,y,z){}}main{}", api.ErrTwice, 5)
	refused(t, "class a{slot x;to g(x){}to f(a,b,a){}}main{}", api.ErrTwice, 9)
	taken(t, "class a{slot x;to f(x,y,f,a,X){x=y;}to g(x,y){}}main{}")
}

func TestVarsOfOneName(t *testing.T) {
	refused(t, "main{var x=1;var x=2;}", api.ErrTwice, 4)
	refused(t, "main{var x=1;var y=2;var x=x+y;}", api.ErrTwice, 6)
	refused(t, "main{var x=1;fork{var x=2;var x=3;}}", api.ErrTwice, 8)
	refused(t, "main{var x=1;if(1){}else{}fork{}while(x){var x=1;}var x=2;}", api.ErrTwice, 15)
	refused(t, "class a{to f(x,y){var z=1;var y=2;}}main{}", api.ErrTwice, 8)
	refused(t, "class a{to f(x){fork{var x=1;var x=2;}}}main{}", api.ErrTwice, 9)
	refused(t, "class a{to f(x){if(x){var x=1;}var x=2;}}main{}", api.ErrTwice, 10)
	taken(t, "main{var x=1;if(x){var x=2;fork{var x=3;while(x){var x=x;}}}else{var x=4;}}")
	taken(t, "main{if(1){var x=1;}if(1){var x=1;}else{var x=2;}var x=3;while(x){var x=x;}fork{var x=x;}}")
	taken(t, "class a{slot x;to f(y){var x=1;if(y){var y=x;var x=y;}}to g(){var y=1;var x=y;}}main{var x=1;var y=1;}")
}

// TestVarsInTheirOwnStatements has vars that are named in what they are to be.
func TestVarsInTheirOwnStatements(t *testing.T) {
	refused(t, "main{var x=x;}", api.ErrName, 3)
	refused(t, "main{var x=1+2*-x;}", api.ErrName, 8)
	refused(t, "main{var x=nil.f(1,x);}", api.ErrName, 6)
	refused(t, "main{var y=x;var x=1;}", api.ErrName, 3)
	refused(t, "main{x=1;var x=1;}", api.ErrName, 2)
	taken(t, "main{var x=1;var y=x;if(x){var x=x;var z=x;}}")
	taken(t, "class a{slot x;to f(y){var x=x;if(y){var y=y;}}}main{}")
}

// TestWhatIsInAVarFirst has a fault in what a var is to be, and one of its own.
func TestWhatIsInAVarFirst(t *testing.T) {
	refused(t, "main{var x=1;var x=y;}", api.ErrName, 5)
	refused(t, "main{var x=1;var x=self;var x=y;}", api.ErrKind, 5)
	refused(t, "main{var x=1;var x=1+(2-new b);}", api.ErrName, 9)
	refused(t, "main{var x=1;var x=1;y;}", api.ErrTwice, 4)
	refused(t, "main{var x=1;var x=x.f(x);y;}", api.ErrTwice, 4)
	refused(t, "main{"+vars("n", maxLocals)+"var x=y;}", api.ErrName, 3+2*maxLocals)
	refused(t, "main{"+vars("n", maxLocals)+"var x=1;y;}", api.ErrSize, 2+2*maxLocals)
}

// TestWhatIsAheadOfWhatIsInIt has other nodes with a fault of their own, and
// one in what is in them.
func TestWhatIsAheadOfWhatIsInIt(t *testing.T) {
	refused(t, "main{x=y;}", api.ErrName, 2)
	refused(t, "main{x=self;}", api.ErrName, 2)
	refused(t, "main{return x;}", api.ErrKind, 2)
	refused(t, "class a{to f(){fork{return x;}}}main{}", api.ErrKind, 6)
	refused(t, "main{var x=1;x=y;}", api.ErrName, 5)
	refused(t, "class a{to f(){return x;}}main{}", api.ErrName, 5)
}

func TestLocalsOfBlocksThatHaveEnded(t *testing.T) {
	refused(t, "main{if(1){var x=1;x;}x;}", api.ErrName, 10)
	refused(t, "main{if(1){var x=1;}else{x;}}", api.ErrName, 9)
	refused(t, "main{if(1){}else{var x=1;}x=1;}", api.ErrName, 8)
	refused(t, "main{while(x){var x=1;}}", api.ErrName, 3)
	refused(t, "main{while(1){var x=1;}x;}", api.ErrName, 8)
	refused(t, "main{fork{var x=1;}print(x);}", api.ErrName, 7)
	refused(t, "class a{to f(x){x;}to g(){x;}}main{}", api.ErrName, 10)
	refused(t, "class a{to f(){var x=1;}to g(){x=1;}}main{}", api.ErrName, 8)
	refused(t, "class a{to f(x){var y=1;}}main{y;}", api.ErrName, 9)
	refused(t, "class a{to f(x){var y=1;}}main{x;}", api.ErrName, 9)
	refused(t, "class a{to f(x){}}class b{to f(y){x;}}main{}", api.ErrName, 10)
	taken(t, "main{if(1){var x=1;if(x){x;fork{x=x;while(x){x;}}}}}")
	taken(t, "class a{to f(x){while(x){if(x){fork{x=x;}}else{print(x);}}}}main{}")
}

// TestOtherLocalsStay has blocks that end: what was there ahead of them is
// still there, what was behind a var of one is not.
func TestOtherLocalsStay(t *testing.T) {
	taken(t, "main{var x=1;if(x){var y=x;var z=y;}x;var w=x;if(w){var y=w;x=y;}w=x;}")
	refused(t, "main{var x=1;if(x){var y=x;var z=y;}var w=x;y;}", api.ErrName, 14)
	refused(t, "main{var x=1;if(x){var y=x;if(y){var z=y;}z;}}", api.ErrName, 15)
}

func TestNamesOfSlots(t *testing.T) {
	taken(t, "class a{slot x;to f(){x=x;}}main{}")
	taken(t, "class a{slot x;to f(){fork{x=x;}}}main{}")
	taken(t, "class a{slot x;}class b:a{to f(){x=x;}}class c:b{slot y;to f(){x=y;}}main{}")
	refused(t, "class a{slot x;}main{x;}", api.ErrName, 5)
	refused(t, "class a{slot x;}main{x=1;}", api.ErrName, 4)
	refused(t, "class a{slot x;}main{fork{x=1;}}", api.ErrName, 6)
	refused(t, "class a{slot x;to f(){x;}}main{x;}", api.ErrName, 9)
	refused(t, "class a{slot x;}class b{to f(){x;}}main{}", api.ErrName, 7)
	refused(t, "class a{slot x;}class b:a{slot y;}class c:a{to f(){x=y;}}main{}", api.ErrName, 11)
	refused(t, "class b{slot y;}class a{to f(){y=1;}}class c:b{}main{}", api.ErrName, 6)
	refused(t, "class a{to f(){x;}}class b:a{slot x;}main{}", api.ErrName, 5)
}

// TestNamesThatAreNone names what is there, but is no local and no slot.
func TestNamesThatAreNone(t *testing.T) {
	for _, statement := range []string{"a;", "f;", "b;", "y;"} {
		refused(t, "class a{to f(){"+statement+"}}class b{slot y;}main{}", api.ErrName, 5)
		refused(t, "class a{to f(){}}class b{slot y;}main{"+statement+"}", api.ErrName, 8)
	}
	for _, statement := range []string{"a=1;", "f=1;", "b=1;", "y=1;"} {
		refused(t, "class a{to f(){"+statement+"}}class b{slot y;}main{}", api.ErrName, 4)
		refused(t, "class a{to f(){}}class b{slot y;}main{"+statement+"}", api.ErrName, 7)
	}
	refused(t, "main{var x=1;X;}", api.ErrName, 5)
	refused(t, "main{var xx=1;x;}", api.ErrName, 5)
	refused(t, "main{var x=1;x1=1;}", api.ErrName, 4)
	taken(t, "main{nil.x();nil.y(1);}")
}

// TestNamesInEachKind has a name that is none in each place where one stands.
func TestNamesInEachKind(t *testing.T) {
	for _, c := range []struct {
		statement string
		at        int
	}{
		{"var y=x;", 3}, {"x=1;", 2}, {"if(x){}", 3}, {"if(1){x;}", 6}, {"if(1){}else{x;}", 7}, {"while(x){}", 3}, {"while(1){x;}", 6},
		{"print(x);", 3}, {"fork{x;}", 5}, {"wait(x);", 3}, {"signal(x);", 3}, {"swap(x,1);", 3}, {"swap(1,x);", 4}, {"x;", 3},
		{"x<1;", 4}, {"1<x;", 5}, {"x==1;", 4}, {"1==x;", 5}, {"x+1;", 4}, {"1+x;", 5}, {"x-1;", 4}, {"1-x;", 5}, {"x*1;", 4}, {"1*x;", 5},
		{"-x;", 4}, {"!x;", 4}, {"x.f();", 4}, {"nil.f(x);", 5}, {"nil.f(1,x,2);", 6}, {"nil.f().g(x);", 6}, {"((x));", 3},
		{"1+2+3+x;", 9}, {"1+(2+(3+x));", 9}, {"nil.f(1+2,gate.g(3,-4),x);", 13},
	} {
		refused(t, "main{"+c.statement+"}", api.ErrName, c.at)
		refused(t, "class a{slot y;}main{"+c.statement+"}", api.ErrName, c.at+2)
		taken(t, "main{var x=1;"+c.statement+"}")
		taken(t, "class a{slot x;to f(){"+c.statement+"}}main{}")
		taken(t, "class a{to f(x){"+c.statement+"}}main{}")
		refused(t, "class a{to f(z){"+c.statement+"}}main{}", api.ErrName, c.at+3)
	}
}

func TestSelf(t *testing.T) {
	taken(t, "class a{to f(){self;}}main{}")
	taken(t, "class a{slot x;to f(){x=self;fork{print(x);}}}main{new a;}")
	taken(t, "class a{to f(){fork{self.f();fork{if(1){self;}}}while(self){var x=self;}self;}}main{}")
	refused(t, "main{self;}", api.ErrKind, 3)
	refused(t, "main{fork{self;}}", api.ErrKind, 5)
	refused(t, "main{if(1){fork{while(1){print(self.f());}}}}", api.ErrKind, 12)
	refused(t, "class a{to f(){self;}}main{self;}", api.ErrKind, 8)
	refused(t, "class a{to f(){fork{self;}}}main{1;nil.f(self);}", api.ErrKind, 14)
	refused(t, "main{var x=self;}", api.ErrKind, 3)
}

func TestReturn(t *testing.T) {
	taken(t, "class a{to f(){return 1;}}main{}")
	taken(t, "class a{to f(){if(1){return 1;}else{while(1){return 2;}}fork{}return 3;}to g(){return 4;}}main{}")
	refused(t, "main{return 1;}", api.ErrKind, 2)
	refused(t, "main{while(1){return 1;}}", api.ErrKind, 5)
	refused(t, "main{fork{return 1;}}", api.ErrKind, 4)
	refused(t, "class a{to f(){fork{return 1;}}}main{}", api.ErrKind, 6)
	refused(t, "class a{to f(){fork{if(self){fork{}return 1;}}return 2;}}main{}", api.ErrKind, 11)
	refused(t, "class a{to f(){return 1;fork{return self;}}}main{}", api.ErrKind, 8)
	refused(t, "class a{to f(){return 1;}}main{return 2;}", api.ErrKind, 7)
	taken(t, "class a{to f(){fork{}return 1;}to g(){fork{fork{}}if(1){return 2;}}}main{}")
}

func TestNewOfClasses(t *testing.T) {
	taken(t, "class a{}main{new a;}")
	taken(t, "class a{to f(){return new a;}}main{}")
	taken(t, "class a{to f(){return new b;}}class b{to f(){return new c;}}class c:a{}main{}")
	taken(t, "class a{}main{fork{print(new a.f(new a));}}")
	refused(t, "main{new a;}", api.ErrName, 3)
	refused(t, "class a{slot b;to c(d){}}main{var e=1;new b;}", api.ErrName, 10)
	refused(t, "class a{slot b;to c(d){}}main{var e=1;new c;}", api.ErrName, 10)
	refused(t, "class a{slot b;to c(d){new d;}}main{}", api.ErrName, 7)
	refused(t, "class a{}main{var e=1;e=1+new e;}", api.ErrName, 8)
	refused(t, "class a{to f(){new b;}}main{}", api.ErrName, 5)
	refused(t, "class a{to f(){new b;}}class B{}main{}", api.ErrName, 5)
	refused(t, "class a{to f(){new b;new d;}}class b{}class c:d{}main{}", api.ErrName, 7)
}

// TestFirstOfSeveral has several faults in one text: the first one as one goes
// from the left is told.
func TestFirstOfSeveral(t *testing.T) {
	refused(t, "main{x;self;return 1;new a;var y=1;var y=2;}", api.ErrName, 3)
	refused(t, "main{self;x;}", api.ErrKind, 3)
	refused(t, "main{new a;self;}", api.ErrName, 3)
	refused(t, "main{var y=1;var y=2;x;}", api.ErrTwice, 4)
	refused(t, "main{x+self;}", api.ErrName, 4)
	refused(t, "main{self+x;}", api.ErrKind, 4)
	refused(t, "main{if(1){var z=1;var z=2;}x;}", api.ErrTwice, 7)
	refused(t, "class a{to f(){x;}}class a{}main{}", api.ErrName, 5)
	refused(t, "class a{to f(){x;}to f(){}}class b:c{}main{}", api.ErrName, 5)
	refused(t, "class a{to f(){}}class b:c{slot x;slot x;}class a{}main{y;}", api.ErrName, 5)
	refused(t, "class a{slot x;slot x;to f(){y;}}main{z;}", api.ErrTwice, 3)
	refused(t, "class a{to f(x){var x=self;return y;}}main{z;}", api.ErrTwice, 5)
	refused(t, "class a{to f(x){return y;var x=self;}}main{z;}", api.ErrName, 6)
	refused(t, "class a{to f(){}}class b:a{to f(){fork{return 1;}}}main{self;}", api.ErrKind, 10)
}
