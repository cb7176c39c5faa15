package fold

import (
	"reflect"
	"strings"
	"testing"

	"gesso/api"
	"gesso/model"
)

// scripts are some by which texts are run.
var scripts = [][]int{nil, {1}, {0, 1}, {1, 0, 1}, {2, 1, 0, 3}, {1, 1, 1, 1, 1, 1}, {-1, 7, 3, -2, 5, 0, 4}}

// alike asks that both texts tell the same by each script, and answers how the
// first run ends.
func alike(t *testing.T, text, other string, scripts [][]int) int {
	t.Helper()
	status := 0
	for i, script := range scripts {
		want, f := model.Run(text, script)
		got, g := model.Run(other, script)
		if f != (api.Fault{}) || g != (api.Fault{}) || !reflect.DeepEqual(got, want) {
			t.Fatalf("%q by %v: %v %v, folded\n%q: %v %v", text, script, want, f, other, got, g)
		}
		if i == 0 {
			status = want.Status
		}
	}
	return status
}

// becomes asks that text becomes the other one, behind which a line ends, stays
// so, and is run as it was.
func becomes(t *testing.T, text, want string) {
	t.Helper()
	got, f := Text(text)
	if got != want+"\n" || f != (api.Fault{}) {
		t.Errorf("%q:\n%q %v, want\n%q", text, got, f, want)
		return
	}
	agreed(t, text)
	alike(t, text, got, scripts)
}

// stays asks that text, which is printed already, is left as it is.
func stays(t *testing.T, text string) {
	t.Helper()
	becomes(t, text, text)
}

// around answers a program in which an expression stands in a method, where x is
// a local and y a slot.
func around(expr string) string {
	return "class a { slot y ; to f ( x ) { return " + expr + " ; } } main { print ( new a . f ( 5 ) ) ; }"
}

// exprs asks of pairs of expressions, each with a blank between its tokens, that
// the one becomes the other.
func exprs(t *testing.T, all [][2]string) {
	t.Helper()
	for _, pair := range all {
		becomes(t, around(pair[0]), around(pair[1]))
	}
}

// stay asks of expressions, each as it is printed, that they are left as they are.
func stay(t *testing.T, all ...string) {
	t.Helper()
	for _, expr := range all {
		stays(t, around(expr))
	}
}

func TestExample(t *testing.T) {
	becomes(t, "main { print(1 - 2 * 3); }", "main { print ( - 5 ) ; }")
}

func TestNothingToReckon(t *testing.T) {
	becomes(t, "main{}", "main { }")
	becomes(t, "main{print(7);} # that is all", "main { print ( 7 ) ; }")
	becomes(t, "main{print(-7);\n}", "main { print ( - 7 ) ; }")
	becomes(t, "class a{slot x;slot y;to f(){}to g(v,w){x=v;}}class b:a{slot z;}main{new b;gate;nil;}",
		"class a { slot x ; slot y ; to f ( ) { } to g ( v , w ) { x = v ; } } class b : a { slot z ; } main { new b ; gate ; nil ; }")
	becomes(t, "main{var x=((3));var y=(-(3));x=(x)+(y*x);if((x)){}else{}while((0)){}fork{print(x);}}",
		"main { var x = 3 ; var y = - 3 ; x = x + y * x ; if ( x ) { } else { } while ( 0 ) { } fork { print ( x ) ; } }")
}

// TestTwoKnownOnes has each kind, of numbers on both sides of 0.
func TestTwoKnownOnes(t *testing.T) {
	exprs(t, [][2]string{
		{"1 + 2", "3"}, {"0 + 0", "0"}, {"- 1 + 2", "1"}, {"1 + - 2", "- 1"}, {"- 1 + - 2", "- 3"}, {"- 2 + 2", "0"},
		{"3 - 2", "1"}, {"2 - 3", "- 1"}, {"2 - 2", "0"}, {"- 2 - 3", "- 5"}, {"2 - - 3", "5"}, {"- 2 - - 2", "0"},
		{"2 * 3", "6"}, {"- 2 * 3", "- 6"}, {"2 * - 3", "- 6"}, {"- 2 * - 3", "6"}, {"0 * 7", "0"}, {"- 7 * 0", "0"}, {"0 * - 7", "0"},
		{"1 < 2", "1"}, {"2 < 1", "0"}, {"2 < 2", "0"}, {"- 2 < - 1", "1"}, {"- 1 < - 2", "0"}, {"- 1 < 0", "1"}, {"0 < - 1", "0"}, {"- 3 < 2", "1"},
		{"2 == 2", "1"}, {"2 == 3", "0"}, {"2 == - 2", "0"}, {"- 2 == - 2", "1"}, {"0 == 0", "1"}, {"- 0 == 0", "1"}, {"0 == - 1", "0"},
	})
}

func TestOneKnownOne(t *testing.T) {
	exprs(t, [][2]string{
		{"- 5", "- 5"}, {"- 0", "0"}, {"- - 5", "5"}, {"- - - 5", "- 5"}, {"- - - - 5", "5"}, {"- - 0", "0"}, {"- - - 0", "0"},
		{"! 0", "1"}, {"! 1", "0"}, {"! 7", "0"}, {"! - 1", "0"}, {"! - 0", "1"}, {"! ! 7", "1"}, {"! ! 0", "0"}, {"! ! ! 0", "1"},
		{"- ! 0", "- 1"}, {"- ! 3", "0"}, {"! - ! 0", "0"}, {"- ! - ! 3", "- 1"},
		{"- ( 1 + 2 )", "- 3"}, {"- ( 1 - 2 )", "1"}, {"- ( 2 - 2 )", "0"}, {"! ( 1 - 2 )", "0"}, {"! ( 1 < 2 )", "0"}, {"! ( 1 == 2 )", "1"},
	})
}

// TestOneThatIsNotKnown has each kind of what is no number, or none that is known,
// on both sides and alone.
func TestOneThatIsNotKnown(t *testing.T) {
	for _, other := range []string{"x", "y", "nil", "self", "gate", "new a", "x . f ( )", "self . f ( 1 )", "new a . f ( 1 , 2 )"} {
		for _, sign := range []string{"+", "-", "*", "<", "=="} {
			stay(t, other+" "+sign+" 1", "1 "+sign+" "+other, other+" "+sign+" - 1", "- 1 "+sign+" "+other, other+" "+sign+" "+other, "0 "+sign+" "+other)
		}
		stay(t, "- "+other, "! "+other, "- - "+other, "! ! "+other, "- ! "+other, "! - "+other, "- ( "+other+" == 0 )")
	}
}

// TestWhatComesAnyway: nobody looks further than at the numbers that are known.
func TestWhatComesAnyway(t *testing.T) {
	stay(t, "x * 0", "0 * x", "x - x", "x == x", "x + 0", "x < x", "- - x", "nil == nil", "nil == 1", "self == self", "gate == nil", "gate == 0", "new a == new a",
		"x + 1 - 1", "1 + x - 1", "1 - ( x - 1 )", "2 * ( x * 3 )")
}

// TestPartsThatAreKnown has sums and products of which only a part is, on the left
// and on the right.
func TestPartsThatAreKnown(t *testing.T) {
	exprs(t, [][2]string{
		{"1 + 2 + x", "3 + x"}, {"x + 1 + 2", "x + 1 + 2"}, {"1 + x + 2", "1 + x + 2"}, {"x + ( 1 + 2 )", "x + 3"}, {"1 + ( 2 + x )", "1 + ( 2 + x )"},
		{"1 - 2 - x", "- 1 - x"}, {"x - 1 - 2", "x - 1 - 2"}, {"x - ( 1 - 2 )", "x - - 1"}, {"x - ( 2 - 1 )", "x - 1"}, {"x + - 0", "x + 0"},
		{"2 * 3 * x", "6 * x"}, {"x * 2 * 3", "x * 2 * 3"}, {"x * ( 2 * 3 )", "x * 6"}, {"x * ( 2 - 3 )", "x * - 1"}, {"( 2 - 3 ) * x", "- 1 * x"},
		{"2 * 3 + x * ( 4 + 5 ) - 6 * 7", "6 + x * 9 - 42"}, {"( 1 + 2 ) * ( x + 3 * 4 )", "3 * ( x + 12 )"}, {"( 1 + 2 ) * 3 + x", "9 + x"},
		{"1 - 2 < x", "- 1 < x"}, {"x < 1 - 2", "x < - 1"}, {"( 1 < 2 ) == x", "1 == x"}, {"( 1 < x ) == ( 2 < 1 )", "( 1 < x ) == 0"}, {"( x == 1 ) < ( 1 == 1 )", "( x == 1 ) < 1"},
		{"- ( x + ( 1 + 2 ) )", "- ( x + 3 )"}, {"! ( x < 1 + 1 )", "! ( x < 2 )"}, {"- - x + - - 1", "- - x + 1"}, {"- ( 3 * 4 ) * x", "- 12 * x"}, {"! 0 - x", "1 - x"},
		{"( 1 < 2 ) + ( 3 == 3 ) * 5", "6"}, {"1 + 2 * 3 - 4 < 5 - 6 * 7", "0"}, {"- ( 1 - ( 2 - ( 3 - 4 ) ) )", "2"},
		{"nil == ( 1 == 1 )", "nil == 1"}, {"1 + 1 == nil", "2 == nil"}, {"( 1 + 1 ) * nil", "2 * nil"},
	})
}

// with lets M stand for the greatest number in each of those.
func with(all [][2]string) [][2]string {
	for i, pair := range all {
		for j, expr := range pair {
			all[i][j] = strings.ReplaceAll(expr, "M", "1073741823")
		}
	}
	return all
}

// TestBounds has what comes out at them, and one beyond.
func TestBounds(t *testing.T) {
	exprs(t, with([][2]string{
		{"M", "M"}, {"- M", "- M"}, {"- - M", "M"}, {"M + 0", "M"}, {"1073741822 + 1", "M"}, {"- 1073741822 - 1", "- M"}, {"0 - M", "- M"},
		{"- M + 0", "- M"}, {"M - 1", "1073741822"}, {"M + - 1", "1073741822"}, {"M - M", "0"}, {"- M - - M", "0"}, {"- M + M", "0"}, {"1 - M", "- 1073741822"},
		{"M * 1", "M"}, {"M * - 1", "- M"}, {"- M * - 1", "M"}, {"M * 0", "0"}, {"32767 * 32769", "M"}, {"- 32767 * 32769", "- M"},
		{"M < M", "0"}, {"- M < M", "1"}, {"M < - M", "0"}, {"M == M", "1"}, {"M == - M", "0"}, {"1073741822 < M", "1"}, {"1073741822 == M", "0"},
		{"! M", "0"}, {"! - M", "0"}, {"536870912 + 536870911", "M"}, {"536870911 * 2 + 1", "M"}, {"- 536870911 * 2 - 1", "- M"},
	}))
	for _, expr := range []string{"M + 1", "1 + M", "M + M", "M - - 1", "M - - M", "- M - 2", "- M - M", "- M + - 2", "M * 2", "2 * M", "M * M", "- M * M", "M * - 2", "- M * - M",
		"32768 * 32768", "- 32768 * - 32768", "65536 * 65536", "- 65536 * 65536", "536870912 * 2", "536870912 + 536870912", "1073741822 + 2"} {
		stay(t, strings.ReplaceAll(expr, "M", "1073741823"))
	}
	// The least number comes, but stays: no decimal is it without its sign.
	for _, expr := range []string{"- M - 1", "- M + - 1", "- 1 + - M", "- 1 - M", "32768 * - 32768", "- 32768 * 32768", "- 536870912 - 536870912", "536870912 * - 2", "- 1073741822 - 2"} {
		stay(t, strings.ReplaceAll(expr, "M", "1073741823"))
	}
}

// TestWhatHangsOnWhatStays has what is around it: no more is known there.
func TestWhatHangsOnWhatStays(t *testing.T) {
	exprs(t, with([][2]string{
		{"M + 1 - 1", "M + 1 - 1"}, {"M - 1 + 1", "M"}, {"M + ( 1 - 1 )", "M"}, {"1 + ( M - 1 )", "M"}, {"1 - 1 + ( M + 1 )", "0 + ( M + 1 )"}, {"( M + 1 ) * ( 2 - 2 )", "( M + 1 ) * 0"},
		{"- ( M + 1 )", "- ( M + 1 )"}, {"! ( M + 1 )", "! ( M + 1 )"}, {"M + 1 == M + 1", "M + 1 == M + 1"}, {"M + 1 < 1 + 1", "M + 1 < 2"}, {"( M + 1 ) * 0 < 2 * 3", "( M + 1 ) * 0 < 6"},
		{"- M - 1 + 1", "- M - 1 + 1"}, {"- ( - M - 1 )", "- ( - M - 1 )"}, {"! ( - M - 1 )", "! ( - M - 1 )"}, {"- M - 1 == - M - 1", "- M - 1 == - M - 1"}, {"- M - 1 < 0", "- M - 1 < 0"},
		{"( - M - 1 ) * 1", "( - M - 1 ) * 1"}, {"0 * ( - M - 1 )", "0 * ( - M - 1 )"}, {"- M - ( 2 - 1 ) + 3 * 4", "- M - 1 + 12"}, {"2 * 3 + 65536 * ( 256 * 256 )", "6 + 65536 * 65536"},
		{"M * M * 0", "M * M * 0"}, {"M * ( M * 0 )", "0"}, {"0 * M * M", "0"}, {"1 + 1 + ( 2 + 2 ) * M + ( 3 + 3 )", "2 + 4 * M + 6"},
	}))
}

// TestStatements has known ones in each kind of statement.
func TestStatements(t *testing.T) {
	for _, statement := range []string{
		"@ ;", "var y = @ ;", "x = @ ;", "print ( @ ) ;", "wait ( @ ) ;", "signal ( @ ) ;", "swap ( @ , x ) ;", "swap ( x , @ ) ;", "swap ( @ , @ ) ;",
		"if ( @ ) { }", "if ( @ ) { print ( 1 ) ; } else { print ( 2 ) ; }", "if ( 1 ) { print ( @ ) ; }", "if ( 0 ) { print ( @ ) ; }", "if ( 0 ) { } else { print ( @ ) ; }",
		"while ( @ ) { }", "while ( @ ) { print ( @ ) ; }", "while ( 0 ) { x = @ ; }", "while ( x ) { x = x + @ ; }",
		"fork { print ( @ ) ; } print ( @ ) ;", "fork { fork { print ( @ ) ; } x = @ ; print ( x ) ; }", "if ( 1 ) { while ( x ) { fork { if ( 0 ) { } else { print ( @ ) ; } } x = 0 ; } }",
		"x . f ( @ ) ;", "x . f ( 1 , @ , @ ) ;", "new a . f ( x . g ( @ ) , - x ) ;", "new a . f ( @ ) . f ( @ ) ;", "print ( new a . f ( @ , @ ) ) ;", "print ( x + @ ) ;", "print ( nil == @ ) ;",
	} {
		text := "class a { slot z ; to f ( v ) { print ( v ) ; return self ; } to f ( v , w ) { " + strings.ReplaceAll(statement, "x", "v") + " z = @ ; return @ ; } " +
			"to g ( ) { var x = @ ; while ( @ ) { return @ ; } } } main { var x = 3 ; " + statement + " print ( new a . f ( 1 , 2 ) ) ; }"
		for _, pair := range [][2]string{{"2 * 3 - 7", "- 1"}, {"1 + 1", "2"}, {"3 - 3", "0"}, {"( 1 < 2 ) + ! 1", "1"}, {"- 0", "0"}, {"! - 3", "0"}} {
			becomes(t, strings.ReplaceAll(text, "@", "( "+pair[0]+" )"), strings.ReplaceAll(text, "@", pair[1]))
		}
		stays(t, strings.ReplaceAll(text, "@", "- 1"))
	}
}

// TestAheadOfCalls has known ones there: parentheses stand around what is below 0.
func TestAheadOfCalls(t *testing.T) {
	for _, pair := range [][2]string{
		{"(1+2).f()", "3 . f ( )"}, {"(1-2).f()", "( - 1 ) . f ( )"}, {"(-1).f()", "( - 1 ) . f ( )"}, {"(-0).f()", "0 . f ( )"}, {"(!0).f()", "1 . f ( )"}, {"(1<2).f(1-2,x+(3-4))", "1 . f ( - 1 , x + - 1 )"},
		{"-(1-2).f()", "- ( - 1 ) . f ( )"}, {"-1.f()", "- 1 . f ( )"}, {"-(1.f())", "- 1 . f ( )"}, {"!(1+1).f(2*3).g(4==4)", "! 2 . f ( 6 ) . g ( 1 )"}, {"(1073741823+1).f()", "( 1073741823 + 1 ) . f ( )"},
	} {
		becomes(t, "main{var x=3;"+pair[0]+";}", "main { var x = 3 ; "+pair[1]+" ; }")
	}
}

// TestAllElseStays: methods that are never called, conditions that never hold and
// what stands behind a return are there as before.
func TestAllElseStays(t *testing.T) {
	becomes(t, "class a{slot x;to f(){return 1+1;x=2+2;}to never(y){if(1<2){return y;}else{return 3*3;}}}class b:a{}main{if(0==1){print(4+4);}while(1-1){gate;}var p=new b;print(p.f());5+5;}",
		"class a { slot x ; to f ( ) { return 2 ; x = 4 ; } to never ( y ) { if ( 1 ) { return y ; } else { return 9 ; } } } class b : a { } "+
			"main { if ( 0 ) { print ( 8 ) ; } while ( 0 ) { gate ; } var p = new b ; print ( p . f ( ) ) ; 10 ; }")
	// A name is never known, whatever it was given.
	becomes(t, "main{var x=1+1;print(x+1);print(x*0);x=x+(1+1);}", "main { var x = 2 ; print ( x + 1 ) ; print ( x * 0 ) ; x = x + 2 ; }")
}

// TestEndsOfRuns has runs that end in each way.
func TestEndsOfRuns(t *testing.T) {
	front := "class a{slot x;to f(y){x=y+(2-1);return x*(3-1);}to deep(){self.deep(2*2-4);self.deep();}to deep(n){return n-(1+1);}}"
	for _, c := range []struct {
		main   string
		status int
	}{
		{"var p=new a;print(p.f(1+1));print(1-2);", api.Done},
		{"var g=gate;var p=new a;fork{print(p.f(1*1));signal(g);}wait(g);print(p.f(-(1-3)));", api.Done},
		{"var i=5-5;while(i<100+198){i=i+(3-2);}print(i==297+1);", api.Done},
		{"print(1+1);wait(gate);", api.Stuck},
		{"var g=gate;fork{wait(g);print(1+2);}fork{wait(g);print(3+4);}print(5+6);signal(g);", api.Stuck},
		{"print(1+1);print(1073741823+(2-1));", api.Fell},
		{"print(1+1+nil);", api.Fell},
		{"print(-1073741823-1);print(-(-1073741823-(3-2)));", api.Fell},
		{"(1+1).f();", api.Fell},
		{"wait(3*3);", api.Fell},
		{"swap(1+1,2+2);", api.Fell},
		{"(new a).deep();", api.Fell},
		{"print(1+1);while(1<2){}", api.Endless},
		{"fork{print(2*2);}while(!(1-1)){var x=1+1;}", api.Endless},
		{"while(1==1){print(3-4);}", api.Out},
		{"var p=new a;fork{while(1+1){print(p.f(2*2));}}while(!0){print(-(1+1));}", api.Out},
	} {
		text := front + "main{" + c.main + "}"
		got, many, _ := agreed(t, text)
		if many == 0 {
			t.Errorf("%q: nothing is reckoned", text)
		}
		if status := alike(t, text, got, scripts); status != c.status {
			t.Errorf("%q ends %d, want %d", text, status, c.status)
		}
	}
}
