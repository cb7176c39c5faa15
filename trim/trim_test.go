package trim

import (
	"reflect"
	"strings"
	"testing"

	"gesso/api"
	"gesso/model"
)

// scripts are some by which texts are run.
var scripts = [][]int{nil, {1}, {0, 1}, {1, 0, 1}, {2, 1, 0, 3}, {1, 1, 1, 1, 1, 1}, {-1, 7, 3, -2, 5, 0, 4}}

// alike asks that both texts tell the same by each script, and answers how the
// first run ends.
func alike(t *testing.T, text, other string, scripts [][]int) int {
	t.Helper()
	status := 0
	for i, script := range scripts {
		want, f := model.Run(text, script)
		got, g := model.Run(other, script)
		if f != (api.Fault{}) || g != (api.Fault{}) || !reflect.DeepEqual(got, want) {
			t.Fatalf("%q by %v: %v %v, trimmed\n%q: %v %v", text, script, want, f, other, got, g)
		}
		if i == 0 {
			status = want.Status
		}
	}
	return status
}

// becomes asks that text becomes the other one, behind which a line ends, stays
// so, and is run as it was.
func becomes(t *testing.T, text, want string) {
	t.Helper()
	got, f := Text(text)
	if got != want+"\n" || f != (api.Fault{}) {
		t.Errorf("%q:\n%q %v, want\n%q", text, got, f, want)
		return
	}
	agreed(t, text)
	alike(t, text, got, scripts)
}

// stays asks that text, which is printed already, is left as it is.
func stays(t *testing.T, text string) {
	t.Helper()
	becomes(t, text, text)
}

func TestExample(t *testing.T) {
	becomes(t, "class a { to f() { } to g() { } } main { (new a).g(); }", "class a { to g ( ) { } } main { new a . g ( ) ; }")
}

func TestWithoutMethods(t *testing.T) {
	becomes(t, "main{}", "main { }")
	becomes(t, "main{print((1+2)*3);} # that is all", "main { print ( ( 1 + 2 ) * 3 ) ; }")
	becomes(t, "class a{}main{}", "class a { } main { }")
	becomes(t, "class a{slot x;slot y;}class b:a{slot z;}main{new b;}", "class a { slot x ; slot y ; } class b : a { slot z ; } main { new b ; }")
	becomes(t, "class a{}main{(new a).f();}", "class a { } main { new a . f ( ) ; }")
	becomes(t, "class a{to f(){}}main{}", "class a { } main { }")
	becomes(t, "class a{slot x;to f(){}to f(x){}to g(){self.f();}}class b:a{to f(){}}main{print(1);}",
		"class a { slot x ; } class b : a { } main { print ( 1 ) ; }")
}

// TestAllElseStays has methods that go from between others that stay.
func TestAllElseStays(t *testing.T) {
	becomes(t, "class a{slot x;slot y;to f(){}to g(v,w){x=v;y=w;}to h(){}to k(){return x;}}class never{slot z;to f(){z=1;}}class b:a{slot w;to h(){return w;}to f(){}}"+
		"main{var p=new b;p.g(1,nil);print(p.k());print(p.h());if(1){swap(p,new b);}else{fork{wait(gate);}}}",
		"class a { slot x ; slot y ; to g ( v , w ) { x = v ; y = w ; } to k ( ) { return x ; } } class never { slot z ; } "+
			"class b : a { slot w ; to h ( ) { return w ; } } main { var p = new b ; p . g ( 1 , nil ) ; print ( p . k ( ) ) ; print ( p . h ( ) ) ; "+
			"if ( 1 ) { swap ( p , new b ) ; } else { fork { wait ( gate ) ; } } }")
	becomes(t, "class c{to f(){}to g(){}}class a{to f(){}to g(){}}class b{to f(){}to g(){}}main{(new b).f();(new c).g();(new a).g();(new a).f();}",
		"class c { to g ( ) { } } class a { to f ( ) { } to g ( ) { } } class b { to f ( ) { } } "+
			"main { new b . f ( ) ; new c . g ( ) ; new a . g ( ) ; new a . f ( ) ; }")
}

// TestPlacesOfCalls has a call of f wherever one can stand in main's block.
func TestPlacesOfCalls(t *testing.T) {
	for _, statement := range []string{
		"@ ;", "var y = @ ;", "x = @ ;", "print ( @ ) ;", "wait ( @ ) ;", "signal ( @ ) ;", "swap ( @ , x ) ;", "swap ( x , @ ) ;",
		"if ( @ ) { }", "if ( 1 ) { @ ; }", "if ( 0 ) { @ ; }", "if ( 1 ) { } else { @ ; }", "if ( 0 ) { } else { @ ; }",
		"while ( @ ) { }", "while ( 0 ) { @ ; }", "while ( 1 ) { @ ; }", "fork { @ ; }", "fork { fork { @ ; } }",
		"if ( 1 ) { while ( 1 ) { fork { if ( 0 ) { } else { print ( @ ) ; } } } }",
		"x . g ( @ ) ;", "x . h ( 1 , 2 , @ ) ;", "@ . h ( ) ;", "x . h ( x . g ( - @ ) ) ;",
		"1 + @ ;", "@ + 1 ;", "1 - @ ;", "1 * @ ;", "1 < @ ;", "@ == 1 ;", "- @ ;", "! @ ;", "! ( 1 < @ + 2 ) ;", "print ( ( 2 - ( 3 + @ ) ) * 4 ) ;",
	} {
		front, back := "class a { to f ( ) { return 1 ; } ", "} main { var x = new a ; "
		statement = strings.ReplaceAll(statement, "@", "x . f ( )")
		if strings.Contains(statement, "g ( ") {
			front += "to g ( y ) { } "
		}
		becomes(t, front+"to k ( ) { } "+back+statement+" }", front+back+statement+" }")
	}
}

// TestPlacesOfCallsInMethods has one in a method that is used, and in one that
// is not.
func TestPlacesOfCallsInMethods(t *testing.T) {
	for _, statement := range []string{"self . f ( ) ;", "return self . f ( ) ;", "fork { self . f ( ) ; }", "fork { fork { if ( 0 ) { self . f ( ) ; } } }",
		"var y = self ; y . f ( ) ;", "x = self ; while ( 0 ) { x . f ( ) ; }", "return new a . f ( ) ;", "if ( 1 ) { return 1 ; } self . f ( ) ;"} {
		text := "class a { slot x ; to f ( ) { } to g ( ) { " + statement + " } } main { new a . "
		stays(t, text+"g ( ) ; }")
		becomes(t, text+"h ( ) ; }", "class a { slot x ; } main { new a . h ( ) ; }")
		becomes(t, text+"f ( ) ; }", "class a { slot x ; to f ( ) { } } main { new a . f ( ) ; }")
	}
}

func TestRows(t *testing.T) {
	stays(t, "class a { to f ( ) { self . g ( ) ; } to g ( ) { self . h ( ) ; } to h ( ) { self . k ( ) ; } to k ( ) { } } main { new a . f ( ) ; }")
	stays(t, "class a { to k ( ) { } to h ( ) { self . k ( ) ; } to g ( ) { self . h ( ) ; } to f ( ) { self . g ( ) ; } } main { new a . f ( ) ; }")
	becomes(t, "class a{to f(){self.g();}to g(){self.h();}to h(){self.k();}to k(){}}main{(new a).h();}",
		"class a { to h ( ) { self . k ( ) ; } to k ( ) { } } main { new a . h ( ) ; }")
	becomes(t, "class a{to f(){self.g();}to g(){self.h();}to h(){}}main{(new a).k();}", "class a { } main { new a . k ( ) ; }")
}

// TestRings has methods that call themselves and each other.
func TestRings(t *testing.T) {
	becomes(t, "class a{to f(){self.f();}}main{}", "class a { } main { }")
	becomes(t, "class a{to f(){(new a).f();}to g(){}}main{(new a).g();}", "class a { to g ( ) { } } main { new a . g ( ) ; }")
	becomes(t, "class a{to f(){(new b).g();}}class b{to g(){(new c).h();}}class c{to h(){(new a).f();}}main{print(new a);}",
		"class a { } class b { } class c { } main { print ( new a ) ; }")
	becomes(t, "class a{to f(){self.g();}to g(){self.f();}to h(){self.k();}to k(){self.h();self.f();}}main{(new a).g();}",
		"class a { to f ( ) { self . g ( ) ; } to g ( ) { self . f ( ) ; } } main { new a . g ( ) ; }")
	stays(t, "class a { to f ( ) { self . f ( ) ; } } main { new a . f ( ) ; }")
	stays(t, "class a { to f ( ) { new b . g ( ) ; } } class b { to g ( ) { new c . h ( ) ; } } class c { to h ( ) { new a . f ( ) ; } } main { new b . g ( ) ; }")
}

// TestSameNames has methods of one name in several classes.
func TestSameNames(t *testing.T) {
	front := "class a{to f(){}}class b{to f(){}}class c{to f(){}}"
	becomes(t, front+"main{(new b).f();}", "class a { } class b { to f ( ) { } } class c { } main { new b . f ( ) ; }")
	becomes(t, front+"main{var x=new a;x=new c;x.f();new b;}",
		"class a { to f ( ) { } } class b { } class c { to f ( ) { } } main { var x = new a ; x = new c ; x . f ( ) ; new b ; }")
	// What is called is what can be come to, not what has been there at that time.
	becomes(t, front+"main{var x=new a;x.f();x=new b;}", "class a { to f ( ) { } } class b { to f ( ) { } } class c { } main { var x = new a ; x . f ( ) ; x = new b ; }")
	// By a slot, by a name in parentheses, by an answer.
	becomes(t, front+"class d{slot x;to put(y){x=y;}to get(){return x;}}main{var d=new d;d.put(new c);d.get().f();new a;}",
		"class a { } class b { } class c { to f ( ) { } } class d { slot x ; to put ( y ) { x = y ; } to get ( ) { return x ; } } "+
			"main { var d = new d ; d . put ( new c ) ; d . get ( ) . f ( ) ; new a ; }")
	becomes(t, front+"class d{to f(x){x.f();}}main{(new d).f(new b);}",
		"class a { } class b { to f ( ) { } } class c { } class d { to f ( x ) { x . f ( ) ; } } main { new d . f ( new b ) ; }")
}

func TestNumbersOfNames(t *testing.T) {
	becomes(t, "class a{to f(){}to f(x){}to f(x,y){}}main{(new a).f(1);}", "class a { to f ( x ) { } } main { new a . f ( 1 ) ; }")
	becomes(t, "class a{to f(){}to f(x){}to f(x,y){}}main{(new a).f();(new a).f(1,2);}",
		"class a { to f ( ) { } to f ( x , y ) { } } main { new a . f ( ) ; new a . f ( 1 , 2 ) ; }")
	becomes(t, "class a{to f(){}to f(x){}}main{(new a).f(1,2);}", "class a { } main { new a . f ( 1 , 2 ) ; }")
	becomes(t, "class a{to f(x){}}class b:a{to f(){}}main{(new b).f(1);}", "class a { to f ( x ) { } } class b : a { } main { new b . f ( 1 ) ; }")
}

// TestClassesOnOthers has methods that are found in the class that one stands on,
// and such as are hidden.
func TestClassesOnOthers(t *testing.T) {
	becomes(t, "class a{to f(){}to g(){}}class b:a{}class c:b{}main{(new c).f();}",
		"class a { to f ( ) { } } class b : a { } class c : b { } main { new c . f ( ) ; }")
	front := "class a{to f(){}}class b:a{to f(){}}class c:b{to f(){}}"
	becomes(t, front+"main{(new a).f();new b;new c;}", "class a { to f ( ) { } } class b : a { } class c : b { } main { new a . f ( ) ; new b ; new c ; }")
	becomes(t, front+"main{(new b).f();}", "class a { } class b : a { to f ( ) { } } class c : b { } main { new b . f ( ) ; }")
	becomes(t, front+"main{(new c).f();}", "class a { } class b : a { } class c : b { to f ( ) { } } main { new c . f ( ) ; }")
	becomes(t, front+"main{(new a).f();(new c).f();}", "class a { to f ( ) { } } class b : a { } class c : b { to f ( ) { } } main { new a . f ( ) ; new c . f ( ) ; }")
	// A method of the lower class calls what is found of what self is.
	becomes(t, "class a{to f(){self.g();}to g(){print(1);}}class b:a{to g(){print(2);}}main{(new b).f();}",
		"class a { to f ( ) { self . g ( ) ; } } class b : a { to g ( ) { print ( 2 ) ; } } main { new b . f ( ) ; }")
	becomes(t, "class a{to f(){self.g();}to g(){print(1);}}class b:a{to g(){print(2);}}main{(new a).f();}",
		"class a { to f ( ) { self . g ( ) ; } to g ( ) { print ( 1 ) ; } } class b : a { } main { new a . f ( ) ; }")
	// Not of one that stands on it.
	becomes(t, "class a{}class b:a{to f(){}}main{(new a).f();}", "class a { } class b : a { } main { new a . f ( ) ; }")
}

// TestWhatIsOfNoClass has calls of what can be a number, nil, a gate.
func TestWhatIsOfNoClass(t *testing.T) {
	for _, ahead := range []string{"1", "nil", "gate", "- 1", "! 0", "( 1 + 2 )", "( nil == nil )"} {
		becomes(t, "class a{to f(){}}main{("+ahead+").f();}", "class a { } main { "+strings.ReplaceAll(strings.ReplaceAll(ahead, "- 1", "( - 1 )"), "! 0", "( ! 0 )")+" . f ( ) ; }")
		becomes(t, "class a{to f(){}to g(){}}class b{to f(){}}main{var x="+ahead+";x=new a;x.f();}",
			"class a { to f ( ) { } } class b { } main { var x = "+strings.TrimSuffix(strings.TrimPrefix(ahead, "( "), " )")+" ; x = new a ; x . f ( ) ; }")
	}
	// A slot and an answer can be nil.
	becomes(t, "class a{slot x;to f(){x.g();}to g(){}to h(){}}main{(new a).f();}", "class a { slot x ; to f ( ) { x . g ( ) ; } } main { new a . f ( ) ; }")
	becomes(t, "class a{to f(){}to g(){}}main{(new a).f().g();}", "class a { to f ( ) { } } main { new a . f ( ) . g ( ) ; }")
	// What is never come to has no class at all: a name of what is never called.
	becomes(t, "class a{to f(x){x.g();self.g();}to g(){}}main{new a;}", "class a { } main { new a ; }")
}

// TestSwaps has what can come to a call only by a swap.
func TestSwaps(t *testing.T) {
	front := "class a{to f(){print(1);}}class b{to f(){print(2);}}class c{to f(){print(3);}}"
	kept := "class a { to f ( ) { print ( 1 ) ; } } class b { to f ( ) { print ( 2 ) ; } } "
	becomes(t, front+"main{var p=new a;swap(p,new b);p.f();}", kept+"class c { } main { var p = new a ; swap ( p , new b ) ; p . f ( ) ; }")
	becomes(t, front+"main{swap(new b,new a);(new a).f();}", kept+"class c { } main { swap ( new b , new a ) ; new a . f ( ) ; }")
	becomes(t, front+"main{swap(new c,new b);(new a).f();}", "class a { to f ( ) { print ( 1 ) ; } } class b { } class c { } main { swap ( new c , new b ) ; new a . f ( ) ; }")
	// By way of another one, by way of a gate.
	becomes(t, front+"main{swap(new c,new b);swap(new c,new a);(new a).f();}",
		kept+"class c { to f ( ) { print ( 3 ) ; } } main { swap ( new c , new b ) ; swap ( new c , new a ) ; new a . f ( ) ; }")
	becomes(t, front+"main{var g=gate;swap(g,new b);g.f();}",
		"class a { } class b { to f ( ) { print ( 2 ) ; } } class c { } main { var g = gate ; swap ( g , new b ) ; g . f ( ) ; }")
	// Self, too.
	becomes(t, "class a{to f(p){swap(self,p);self.g();}to g(){print(1);}}class b{to g(){print(2);}to h(){}}main{(new a).f(new b);}",
		"class a { to f ( p ) { swap ( self , p ) ; self . g ( ) ; } to g ( ) { print ( 1 ) ; } } class b { to g ( ) { print ( 2 ) ; } } main { new a . f ( new b ) ; }")
	// With what is none nothing is swapped.
	becomes(t, front+"main{swap(1,new b);swap(nil,new b);swap(new a,nil);(new a).f();}",
		"class a { to f ( ) { print ( 1 ) ; } } class b { } class c { } main { swap ( 1 , new b ) ; swap ( nil , new b ) ; swap ( new a , nil ) ; new a . f ( ) ; }")
}

// TestLookedAtAnew has methods that go only when those went that gave something
// to what stays.
func TestLookedAtAnew(t *testing.T) {
	for _, c := range []struct {
		text, want string
		rounds     int
	}{
		{"class a{to f(){}}main{(new a).f();}", "class a { to f ( ) { } } main { new a . f ( ) ; }", 0},
		{"class a{to f(){}to g(){}}main{(new a).f();}", "class a { to f ( ) { } } main { new a . f ( ) ; }", 1},
		// Methods that go all at once: each is called only by those that go.
		{"class a{to f(){self.g();}to g(){self.h();}to h(){}}main{new a;}", "class a { } main { new a ; }", 1},
		// A swap in what is never called.
		{"class a{to f(){}to u(){swap(new a,new b);}}class b{to f(){}}main{(new a).f();}", "class a { to f ( ) { } } class b { } main { new a . f ( ) ; }", 2},
		// A name in parentheses, given by a call that is never done.
		{"class a{to f(x){x.g();}to u(){self.f(new b);(new a).f(new c);}}class b{to g(){}}class c{to g(){}}main{(new a).f(new b);}",
			"class a { to f ( x ) { x . g ( ) ; } } class b { to g ( ) { } } class c { } main { new a . f ( new b ) ; }", 2},
		// A slot that is set by a call that is never done.
		{"class a{slot x;to f(){x.g();}to put(y){x=y;}to u(){(new a).put(new b);}}class b{to g(){}}main{(new a).f();}",
			"class a { slot x ; to f ( ) { x . g ( ) ; } } class b { } main { new a . f ( ) ; }", 2},
		// What is in a method that goes lets others go: more than once.
		{"class a{to f(){}to u(){swap(new a,new b);}}class b{to f(){swap(new a,new c);}}class c{to f(){swap(new a,new d);}}class d{to f(){}}main{(new a).f();}",
			"class a { to f ( ) { } } class b { } class c { } class d { } main { new a . f ( ) ; }", 4},
	} {
		becomes(t, c.text, c.want)
		if _, rounds, _ := agreed(t, c.text); rounds != c.rounds {
			t.Errorf("%q: methods go %d times, want %d", c.text, rounds, c.rounds)
		}
	}
}

// TestEndsOfRuns has runs that end in each way.
func TestEndsOfRuns(t *testing.T) {
	front := "class a{slot x;to u(){self.v();}to f(y){x=y;return x+1;}to v(){print(9);}to deep(){self.deep();}}class b:a{to f(y){return 7;}to g(){print(self);}}"
	for _, c := range []struct {
		main   string
		status int
	}{
		{"var p=new b;print(p.f(1));p.g();", api.Done},
		{"var g=gate;var p=new a;fork{print(p.f(1));signal(g);}wait(g);print(p.f(2));", api.Done},
		{"var p=new a;print(p.f(1));wait(gate);", api.Stuck},
		{"var g=gate;fork{wait(g);}fork{wait(g);}print((new a).f(3));signal(g);", api.Stuck},
		{"print((new a).f(nil));", api.Fell},
		{"var p=new b;p.g();p.w();", api.Fell},
		{"(new a).g();", api.Fell},
		{"var p=gate;p.f(1);", api.Fell},
		{"(new a).deep();", api.Fell},
		{"print((new a).f(1));while(1){}", api.Endless},
		{"fork{print((new b).f(1));}while(1){var x=1;}", api.Endless},
		{"var p=new b;while(1){p.f(1);}", api.Out},
		{"var p=new a;fork{while(1){print(p.f(1));}}while(1){print((new b).f(2));}", api.Out},
	} {
		text := front + "main{" + c.main + "}"
		got, _, _ := agreed(t, text)
		if strings.Contains(got, "to u") || strings.Contains(got, "to v") {
			t.Errorf("%q:\n%q", text, got)
		}
		if status := alike(t, text, got, scripts); status != c.status {
			t.Errorf("%q ends %d, want %d", text, status, c.status)
		}
	}
}
