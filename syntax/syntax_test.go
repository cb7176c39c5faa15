package syntax

import (
	"strconv"
	"strings"
	"testing"

	"gesso/api"
)

// The limits stand here as plain digits, so that a slip in how the program
// works them out is seen.
const (
	maxText  = 4000
	maxNest  = 20
	maxNodes = 600
	most     = 1073741823
)

// kindNames are what kinds are called here, kind 1 first.
var kindNames = strings.Fields("program class slot method arg block var set if while return print fork wait signal " +
	"swap do less same add sub mul neg not call number nil self gate new name")

// shown is a node as a text: its kind, its text, its number and its kids, none
// of which is told where it is zero.
func shown(n api.Node) string {
	s := strconv.Itoa(n.Kind)
	if n.Kind > 0 && n.Kind <= len(kindNames) {
		s = kindNames[n.Kind-1]
	}
	if n.Text != "" {
		s += ":" + n.Text
	}
	if n.Num != 0 {
		s += "#" + strconv.Itoa(n.Num)
	}
	if len(n.Kids) == 0 {
		return s
	}
	var kids []string
	for _, kid := range n.Kids {
		kids = append(kids, shown(kid))
	}
	return s + "(" + strings.Join(kids, " ") + ")"
}

// isZero tells whether a node is the zero one.
func isZero(n api.Node) bool { return n.Kind == 0 && n.Text == "" && n.Num == 0 && len(n.Kids) == 0 }

// short answers the front of text, so that what is told stays short.
func short(text string) string { return text[:min(len(text), 100)] }

// parsed asks that Parse answers that node, and answers it.
func parsed(t *testing.T, text, want string) api.Node {
	t.Helper()
	n, f := Parse(text)
	if got := shown(n); f != (api.Fault{}) || got != want {
		t.Errorf("%q: %s %v, want %s", short(text), short(got), f, short(want))
	}
	return n
}

// taken asks that Parse takes text, and answers the node.
func taken(t *testing.T, text string) api.Node {
	t.Helper()
	n, f := Parse(text)
	if f != (api.Fault{}) || isZero(n) {
		t.Errorf("%q: %v", short(text), f)
	}
	return n
}

// refused asks that Parse answers that fault, and nothing else.
func refused(t *testing.T, text string, code api.Errno, at int) {
	t.Helper()
	if n, f := Parse(text); f != (api.Fault{Code: code, At: at}) || !isZero(n) {
		t.Errorf("%q: %s %v, want %d at %d", short(text), short(shown(n)), f, code, at)
	}
}

// faulty asks for that fault at the token behind the @ in text, which is taken
// out.
func faulty(t *testing.T, text string, code api.Errno) {
	t.Helper()
	ahead, behind, _ := strings.Cut(text, "@")
	refused(t, ahead+behind, code, len(text)-1-len(strings.TrimLeft(behind, " ")))
}

// printed asks that Print answers that text.
func printed(t *testing.T, n api.Node, want string) {
	t.Helper()
	if got, f := Print(n); f != (api.Fault{}) || got != want {
		t.Errorf("%s: %q %v, want %q", short(shown(n)), short(got), f, short(want))
	}
	shortened(t, n, want)
}

// shortened asks that Shortest answers the tokens of that print, with a blank
// only where two would run together, and that they are parsed as the same node.
func shortened(t *testing.T, n api.Node, print string) {
	t.Helper()
	text, f := Shortest(n)
	if f != (api.Fault{}) || strings.ReplaceAll(text, " ", "") != strings.Join(strings.Fields(print), "") {
		t.Errorf("%q: %q %v", short(print), short(text), f)
	}
	for i := range len(text) {
		if text[i] == ' ' && (i == 0 || i == len(text)-1 || strings.ContainsAny(text[i-1:i]+text[i+1:i+2], " =+-*<!.,;:(){}")) {
			t.Errorf("%q: the blank at %d", text, i)
		}
	}
	if m, f := Parse(text); f != (api.Fault{}) || shown(m) != shown(n) {
		t.Errorf("%q: %v", short(text), f)
	}
}

// unprinted asks that Print and Shortest answer ErrForm, and nothing else.
func unprinted(t *testing.T, n api.Node) {
	t.Helper()
	for _, call := range []func(api.Node) (string, api.Fault){Print, Shortest} {
		if got, f := call(n); f != (api.Fault{Code: api.ErrForm}) || got != "" {
			t.Errorf("%d %q %d, %d kids: %q %v", n.Kind, short(n.Text), n.Num, len(n.Kids), short(got), f)
		}
	}
}

func TestExample(t *testing.T) {
	n := parsed(t, "main { print((1+2)*3); }", "program(block(print(mul(add(number#1 number#2) number#3))))")
	printed(t, n, "main { print ( ( 1 + 2 ) * 3 ) ; }\n")
}

// TestExamplesOfTheWhole takes the programs of the document.
func TestExamplesOfTheWhole(t *testing.T) {
	parsed(t, "class a { slot x; to put(v) { x = v; } to get() { return x; } } "+
		"main { var p = new a; var q = new a; p.put(1); q.put(2); swap(p, q); print(p.get()); print(p == q); }",
		"program(class:a(slot:x method:put#1(arg:v block(set:x(name:v))) method:get(block(return(name:x)))) "+
			"block(var:p(new:a) var:q(new:a) do(call:put(name:p number#1)) do(call:put(name:q number#2)) "+
			"swap(name:p name:q) print(call:get(name:p)) print(same(name:p name:q))))")
	parsed(t, "main { var g = gate; fork { signal(g); } wait(g); wait(g); }",
		"program(block(var:g(gate) fork(block(signal(name:g))) wait(name:g) wait(name:g)))")
	parsed(t, "class a { slot x; } main { while (1) { var t = new a; } }",
		"program(class:a(slot:x) block(while(number#1 block(var:t(new:a)))))")
}

func TestPrograms(t *testing.T) {
	for _, c := range [][2]string{
		{"main{}", "program(block)"},
		{" main\n{\t} # end", "program(block)"},
		{"class a{}main{}", "program(class:a block)"},
		{"class a{}class a{}class b{}main{}", "program(class:a class:a class:b block)"},
		{"class a:b{}main{}", "program(class:a(name:b) block)"},
		{"class a:a{slot x;}main{}", "program(class:a(name:a slot:x) block)"},
		{"class a{slot x;slot y;slot x;}main{}", "program(class:a(slot:x slot:y slot:x) block)"},
		{"class a{to f(){}}main{}", "program(class:a(method:f(block)) block)"},
		{"class a{to f(x){}}main{}", "program(class:a(method:f#1(arg:x block)) block)"},
		{"class a{to f(x,y,x){}}main{}", "program(class:a(method:f#3(arg:x arg:y arg:x block)) block)"},
		{"class a{to f(){}to f(){}}main{}", "program(class:a(method:f(block) method:f(block)) block)"},
		{"class a:b{slot s;slot t;to f(){1;}to g(x){x;}}main{2;}",
			"program(class:a(name:b slot:s slot:t method:f(block(do(number#1))) method:g#1(arg:x block(do(name:x)))) " +
				"block(do(number#2)))"},
	} {
		parsed(t, c[0], c[1])
	}
}

func TestStatements(t *testing.T) {
	for _, c := range [][2]string{
		{"", ""},
		{"var x=1;", "var:x(number#1)"},
		{"var x=a<b;", "var:x(less(name:a name:b))"},
		{"x=1;", "set:x(number#1)"},
		{"x=x==x;", "set:x(same(name:x name:x))"},
		{"if(1){}", "if(number#1 block)"},
		{"if(1){}else{}", "if(number#1 block block)"},
		{"if(a){b;}else{c;d;}", "if(name:a block(do(name:b)) block(do(name:c) do(name:d)))"},
		{"if(1){if(2){}else{}}", "if(number#1 block(if(number#2 block block)))"},
		{"if(1){if(2){}}else{}", "if(number#1 block(if(number#2 block)) block)"},
		{"if(1){}if(2){}else{}", "if(number#1 block) if(number#2 block block)"},
		{"while(1){}", "while(number#1 block)"},
		{"while(a<9){a=a+1;}", "while(less(name:a number#9) block(set:a(add(name:a number#1))))"},
		{"return 1;", "return(number#1)"},
		{"return(1);", "return(number#1)"},
		{"return-a;", "return(neg(name:a))"},
		{"print(1);", "print(number#1)"},
		{"print((1));", "print(number#1)"},
		{"fork{}", "fork(block)"},
		{"fork{fork{}}fork{x;}", "fork(block(fork(block))) fork(block(do(name:x)))"},
		{"wait(g);", "wait(name:g)"},
		{"signal(g);", "signal(name:g)"},
		{"swap(a,b);", "swap(name:a name:b)"},
		{"swap(a==b,(a));", "swap(same(name:a name:b) name:a)"},
		{"x;", "do(name:x)"},
		{"x==1;", "do(same(name:x number#1))"},
		{"x<1;", "do(less(name:x number#1))"},
		{"x.f();", "do(call:f(name:x))"},
		{"(x).f();", "do(call:f(name:x))"},
		{"(x);", "do(name:x)"},
		{"x+1;", "do(add(name:x number#1))"},
		{"1;", "do(number#1)"},
		{"nil;self;gate;new a;", "do(nil) do(self) do(gate) do(new:a)"},
		{"-1;!x;", "do(neg(number#1)) do(not(name:x))"},
		{"new a.f();", "do(call:f(new:a))"},
		{"x=x;x;x=x;", "set:x(name:x) do(name:x) set:x(name:x)"},
	} {
		want := "program(block(" + c[1] + "))"
		if c[1] == "" {
			want = "program(block)"
		}
		parsed(t, "main{"+c[0]+"}", want)
		parsed(t, "class c{to m(){"+c[0]+"}}main{}", "program(class:c(method:m("+strings.TrimPrefix(want, "program(")+") block)")
	}
}

// expressions are such, the node of each, and its print.
var expressions = [][3]string{
	{"0", "number", "0"},
	{"7", "number#7", "7"},
	{"1073741823", "number#1073741823", "1073741823"},
	{"nil", "nil", "nil"},
	{"self", "self", "self"},
	{"gate", "gate", "gate"},
	{"new a", "new:a", "new a"},
	{"a", "name:a", "a"},
	{"_Z9", "name:_Z9", "_Z9"},
	{"(a)", "name:a", "a"},
	{"(((7)))", "number#7", "7"},
	{"a<b", "less(name:a name:b)", "a < b"},
	{"a==b", "same(name:a name:b)", "a == b"},
	{"(a<b)", "less(name:a name:b)", "a < b"},
	{"(a<b)<c", "less(less(name:a name:b) name:c)", "( a < b ) < c"},
	{"a<(b<c)", "less(name:a less(name:b name:c))", "a < ( b < c )"},
	{"(a==b)<c", "less(same(name:a name:b) name:c)", "( a == b ) < c"},
	{"a==(b<c)", "same(name:a less(name:b name:c))", "a == ( b < c )"},
	{"(a<b)==(c==d)", "same(less(name:a name:b) same(name:c name:d))", "( a < b ) == ( c == d )"},
	{"(a+b)<(c-d)", "less(add(name:a name:b) sub(name:c name:d))", "a + b < c - d"},
	{"a+(b<c)", "add(name:a less(name:b name:c))", "a + ( b < c )"},
	{"(a<b)+c", "add(less(name:a name:b) name:c)", "( a < b ) + c"},
	{"a+b", "add(name:a name:b)", "a + b"},
	{"a-b", "sub(name:a name:b)", "a - b"},
	{"a+b+c", "add(add(name:a name:b) name:c)", "a + b + c"},
	{"(a+b)+c", "add(add(name:a name:b) name:c)", "a + b + c"},
	{"a+(b+c)", "add(name:a add(name:b name:c))", "a + ( b + c )"},
	{"a-b-c", "sub(sub(name:a name:b) name:c)", "a - b - c"},
	{"a-(b-c)", "sub(name:a sub(name:b name:c))", "a - ( b - c )"},
	{"a-b+c", "add(sub(name:a name:b) name:c)", "a - b + c"},
	{"a-(b+c)", "sub(name:a add(name:b name:c))", "a - ( b + c )"},
	{"a+b-c", "sub(add(name:a name:b) name:c)", "a + b - c"},
	{"a+(b-c)", "add(name:a sub(name:b name:c))", "a + ( b - c )"},
	{"a*b", "mul(name:a name:b)", "a * b"},
	{"a*b*c", "mul(mul(name:a name:b) name:c)", "a * b * c"},
	{"a*(b*c)", "mul(name:a mul(name:b name:c))", "a * ( b * c )"},
	{"a+b*c", "add(name:a mul(name:b name:c))", "a + b * c"},
	{"a*b+c", "add(mul(name:a name:b) name:c)", "a * b + c"},
	{"(a*b)-(c*d)", "sub(mul(name:a name:b) mul(name:c name:d))", "a * b - c * d"},
	{"(a+b)*c", "mul(add(name:a name:b) name:c)", "( a + b ) * c"},
	{"a*(b-c)", "mul(name:a sub(name:b name:c))", "a * ( b - c )"},
	{"a*(b<c)", "mul(name:a less(name:b name:c))", "a * ( b < c )"},
	{"(a==b)*c", "mul(same(name:a name:b) name:c)", "( a == b ) * c"},
	{"-a", "neg(name:a)", "- a"},
	{"!a", "not(name:a)", "! a"},
	{"--a", "neg(neg(name:a))", "- - a"},
	{"-!-!a", "neg(not(neg(not(name:a))))", "- ! - ! a"},
	{"-(-a)", "neg(neg(name:a))", "- - a"},
	{"-(a+b)", "neg(add(name:a name:b))", "- ( a + b )"},
	{"!(a<b)", "not(less(name:a name:b))", "! ( a < b )"},
	{"-(a*b)", "neg(mul(name:a name:b))", "- ( a * b )"},
	{"-a*b", "mul(neg(name:a) name:b)", "- a * b"},
	{"(-a)*(-b)", "mul(neg(name:a) neg(name:b))", "- a * - b"},
	{"-a-b", "sub(neg(name:a) name:b)", "- a - b"},
	{"a--b", "sub(name:a neg(name:b))", "a - - b"},
	{"a-(-b)", "sub(name:a neg(name:b))", "a - - b"},
	{"!a==b", "same(not(name:a) name:b)", "! a == b"},
	{"-7", "neg(number#7)", "- 7"},
	{"-0", "neg(number)", "- 0"},
	{"a.f()", "call:f(name:a)", "a . f ( )"},
	{"a.f(b)", "call:f(name:a name:b)", "a . f ( b )"},
	{"a.f(b,c,1)", "call:f(name:a name:b name:c number#1)", "a . f ( b , c , 1 )"},
	{"a.f((b))", "call:f(name:a name:b)", "a . f ( b )"},
	{"a.f((b<c),(d==e))", "call:f(name:a less(name:b name:c) same(name:d name:e))", "a . f ( b < c , d == e )"},
	{"a.f().g(1).f()", "call:f(call:g(call:f(name:a) number#1))", "a . f ( ) . g ( 1 ) . f ( )"},
	{"(a.f()).g()", "call:g(call:f(name:a))", "a . f ( ) . g ( )"},
	{"a.f(b.g())", "call:f(name:a call:g(name:b))", "a . f ( b . g ( ) )"},
	{"-a.f()", "neg(call:f(name:a))", "- a . f ( )"},
	{"(-a).f()", "call:f(neg(name:a))", "( - a ) . f ( )"},
	{"(!a).f()", "call:f(not(name:a))", "( ! a ) . f ( )"},
	{"(a+b).f()", "call:f(add(name:a name:b))", "( a + b ) . f ( )"},
	{"(a-b).f()", "call:f(sub(name:a name:b))", "( a - b ) . f ( )"},
	{"(a*b).f()", "call:f(mul(name:a name:b))", "( a * b ) . f ( )"},
	{"(a<b).f()", "call:f(less(name:a name:b))", "( a < b ) . f ( )"},
	{"(a==b).f()", "call:f(same(name:a name:b))", "( a == b ) . f ( )"},
	{"a+b.f()", "add(name:a call:f(name:b))", "a + b . f ( )"},
	{"a*(b.f())", "mul(name:a call:f(name:b))", "a * b . f ( )"},
	{"(new a).f()", "call:f(new:a)", "new a . f ( )"},
	{"1.f()", "call:f(number#1)", "1 . f ( )"},
	{"(nil).f()", "call:f(nil)", "nil . f ( )"},
	{"self.f(self)", "call:f(self self)", "self . f ( self )"},
	{"gate.f(gate,new b)", "call:f(gate gate new:b)", "gate . f ( gate , new b )"},
	{"1+2*-3 .f(4-5)<!6", "less(add(number#1 mul(number#2 neg(call:f(number#3 sub(number#4 number#5))))) not(number#6))",
		"1 + 2 * - 3 . f ( 4 - 5 ) < ! 6"},
}

func TestExpressions(t *testing.T) {
	for _, e := range expressions {
		n := parsed(t, "main{"+e[0]+";}", "program(block(do("+e[1]+")))")
		printed(t, n, "main { "+e[2]+" ; }\n")
		n = parsed(t, "main{x="+e[0]+";}", "program(block(set:x("+e[1]+")))")
		printed(t, n, "main { x = "+e[2]+" ; }\n")
		parsed(t, "main { "+e[2]+" ; }\n", "program(block(do("+e[1]+")))")
		parsed(t, "main{if("+e[0]+"){}while("+e[0]+"){}}", "program(block(if("+e[1]+" block) while("+e[1]+" block)))")
		n = parsed(t, "main{x.f("+e[0]+",("+e[0]+"));}", "program(block(do(call:f(name:x "+e[1]+" "+e[1]+"))))")
		printed(t, n, "main { x . f ( "+e[2]+" , "+e[2]+" ) ; }\n")
	}
}

// TestPrintOfEachRow has texts that are prints already, of what is no
// expression.
func TestPrintOfEachRow(t *testing.T) {
	for _, text := range []string{
		"main { }",
		"class a { } main { }",
		"class a : b { } main { }",
		"class a { slot x ; } main { }",
		"class a { slot x ; slot y ; to f ( ) { } to g ( x ) { } to h ( x , y , z ) { x ; } } class b : a { } main { 1 ; }",
		"class a : b { slot x ; to f ( ) { return x ; } } main { }",
		"main { var x = 1 ; x = 2 ; x ; }",
		"main { if ( 1 ) { } }",
		"main { if ( 1 ) { } else { } }",
		"main { if ( a < b ) { if ( 2 ) { } else { x ; } } else { if ( 3 ) { } } }",
		"main { while ( 1 ) { } while ( a == b ) { 1 ; 2 ; } }",
		"main { return 1 ; return ( 1 + 2 ) * 3 ; }",
		"main { print ( 1 ) ; wait ( 1 ) ; signal ( a . f ( ) ) ; swap ( a , b < c ) ; }",
		"main { fork { } fork { fork { x ; } } }",
	} {
		printed(t, taken(t, text), text+"\n")
		printed(t, taken(t, strings.ReplaceAll(text, " ", " \n")), text+"\n")
	}
}

func TestTokensThatAreNotWanted(t *testing.T) {
	for _, text := range []string{
		"@", "@ x", "@1", "@;", "main@", "main # {\n@", "main@ main", "main@;", "main@(", "main{@", "main{}@ main{}", "main{}@}", "main{}@;",
		"main{}@ class a{}", "main{}@1", "main { } @x", "@to f(){}", "@slot x;", "@{}", "@else{}",
		"class@", "class@{", "class@ main", "class@ 1", "class a@", "class a@ b", "class a@;", "class a@ main{}", "class a:@", "class a:@{",
		"class a:@:b", "class a:b@", "class a:b@:c{}", "class a:b@ c{}", "class a{@", "class a{@x", "class a{@;}", "class a{@main", "class a{@class b{}}",
		"class a{}@", "class a{}@;", "class a{}@}", "class a{}@ x", "class a{@var x=1;}",
		"class a{slot@", "class a{slot@;", "class a{slot@ 1;", "class a{slot@ slot;", "class a{slot x@", "class a{slot x@,y;", "class a{slot x@=1;",
		"class a{slot x@}", "class a{slot x;@;", "class a{slot x;@x", "class a{to f(){}@ slot x;}", "class a{to f(){}@;}",
		"class a{to@", "class a{to@(", "class a{to@ to(", "class a{to f@", "class a{to f@{", "class a{to f(@", "class a{to f(@,", "class a{to f(@1)",
		"class a{to f(@nil)", "class a{to f(x@", "class a{to f(x@ y", "class a{to f(x@;", "class a{to f(x,@", "class a{to f(x,@)", "class a{to f(x,@,",
		"class a{to f(x,y@", "class a{to f()@", "class a{to f()@;", "class a{to f()@ x", "class a{to f()@:", "class a{to f(){@", "class a{to f(@(x)){}}",
	} {
		faulty(t, text, api.ErrSyntax)
		if at := strings.Index(text, "@"); at+1 == len(text) {
			// At the end the place is behind all that stands between, too.
			refused(t, text[:at]+" # >\n ", api.ErrSyntax, at+6)
		}
	}
}

func TestStatementsThatAreNone(t *testing.T) {
	for _, text := range []string{
		"@", "@;", "x;@;", "@)", "@,", "@:", "@.", "@=", "@==", "@<1;", "@+1;", "@*1;", "@{}", "@main", "@class a{}", "@to f(){}", "@slot x;",
		"@else{}", "x@", "x@}", "x@ y;", "x@ 1;", "x@:", "x@,", "x@(", "x@{", "x@!", "1@=2;", "x.f()@=2;", "(x)@=2;", "self@=1;", "nil@=1;", "-x@=1;", "x+y@=1;",
		"var@", "var@=1;", "var@ 1=1;", "var@ self=1;", "var x@", "var x@;", "var x@ ==1;", "var x@ 1;", "var x@:", "var x=@", "var x=@;", "var x=@ =1;", "var x=1@",
		"var x=1@}", "var x=1@=2;", "var x=1@,y=2;", "var x=y@=2;",
		"x=@", "x=@;", "x=@}", "x=@ =1;", "x=@ ==1;", "x=1@", "x=1@}", "x=y@=1;", "x=1@ 2;", "x=@var y=1;", "x=@print(1);", "x=@if(1){}",
		"if@", "if@ 1", "if@{", "if@ x", "if(@", "if(@)", "if(@;", "if(1@", "if(1@{", "if(1@;", "if(1@,", "if(x@=1){}", "if(1)@", "if(1)@ x;", "if(1)@;",
		"if(1)@)", "if(1)@(", "if(1){@", "if(1){}else@", "if(1){}else@ if(2){}", "if(1){}else@;", "if(1){}else@ x;", "if(1){}else{@", "if(1){}else{}@else{}",
		"if(1){}@;", "if(1){}@)",
		"while@", "while@ 1", "while(@", "while(@)", "while(1@", "while(1@;", "while(1)@", "while(1)@;", "while(1)@ x;", "while(1){@", "while(1){}@else{}", "while(1){}@;",
		"return@", "return@;", "return@}", "return@ return", "return 1@", "return 1@}", "return 1@ 2", "return@=", "return x@=1;",
		"print@", "print@ 1;", "print@;", "print(@", "print(@)", "print(1@", "print(1@;", "print(1@,2);", "print(1)@", "print(1)@}", "print(1)@+1;", "print(1)@.f();", "print(1)@==1;",
		"fork@", "fork@;", "fork@ x;", "fork@(", "fork{@", "fork{}@;", "fork{}@else{}",
		"wait@", "wait@ g;", "wait(@", "wait(@)", "wait(g@", "wait(g@,", "wait(g)@", "wait(g)@}", "wait(g)@.",
		"signal@", "signal@ g;", "signal(@", "signal(@)", "signal(g@", "signal(g@,", "signal(g)@", "signal(g)@}", "signal(g)@(",
		"swap@", "swap@ a", "swap(@", "swap(@)", "swap(@,", "swap(a@", "swap(a@)", "swap(a@;", "swap(a@ b", "swap(a,@", "swap(a,@)", "swap(a,@,", "swap(a,b@", "swap(a,b@;",
		"swap(a,b@,c);", "swap(a,b)@", "swap(a,b)@}", "swap(a,b)@.f();",
	} {
		faulty(t, "main{"+text, api.ErrSyntax)
		faulty(t, "main { x; fork { "+text, api.ErrSyntax)
		faulty(t, "class a { to f(x) { "+text, api.ErrSyntax)
	}
}

func TestExpressionsThatAreNone(t *testing.T) {
	for _, text := range []string{
		"@", "@)", "@;", "(@", "(@)", "(1@", "(1@;", "(1@,2)", "(x@=1)", "1@ 2", "1@ x", "x@ nil", "x@ new a", "x@!y", "1@(", "x@(1)", "x@{", "x@:y", "(1)@(2)", "(1)@ 2",
		"1<@", "1<@<", "1<@==", "1<2@<3", "1<2@==3", "1==2@<3", "1==2@==3", "1==@ ==2", "1<@=2", "1@=2", "1@=<2", "1+2<3*4@<5", "1<2+3@==4", "(1<2)<3@<4", "1==@ =2",
		"1+@", "1+@+2", "1+@*2", "1+@)", "1-@", "1-@+2", "1--@", "1-@;", "1*@", "1*@*2", "1*@<2", "@*1", "@+1", "@<1", "@==1", "1*-@", "1*-@+1",
		"-@", "-@)", "-@;", "-@.f()", "!@", "!@=1", "!@==1", "-!@", "-!-@", "!@,",
		"@.f()", "x.@", "x.@;", "x.@1", "x.@(", "x.@nil()", "x.@new", "x.@print()", "x.@.f()", "x.f@", "x.f@;", "x.f@.g()", "x.f@ 1", "x.f@=1", "x.f(@", "x.f(@,", "x.f(@;", "x.f(@,1)",
		"x.f(1@", "x.f(1@;", "x.f(1@ 2", "x.f(1,@", "x.f(1,@)", "x.f(1,@,", "x.f(1,2@", "x.f(y@=1)", "x.f()@ y", "x.f()@(", "x.f()@1", "x.f().@", "x.f().@(", "1.@2", "1.@;",
		"new@", "new@;", "new@ 1", "new@ nil", "new@ self", "new@(", "new@(a)", "new a@(", "new a@ b", "new a@{", "new@ new a", "new a.@", "@class", "@to", "@slot", "@main", "@var", "@if",
		"@else", "@while", "@return", "@print(1)", "@fork", "@wait(1)", "@signal(1)", "@swap(1,2)", "1+@print(2)", "@,", "@:", "@=", "@{", "@}", "@.",
	} {
		faulty(t, "main{x= "+text, api.ErrSyntax)
		faulty(t, "main{print("+text, api.ErrSyntax)
		faulty(t, "main { while (a.f(b, -"+text, api.ErrSyntax)
	}
}
