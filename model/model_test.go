package model

import (
	"slices"
	"strings"
	"testing"

	"gesso/api"
)

// The limits stand here as plain digits, so that a slip in how the program
// works them out is seen.
const (
	least     = "(-1073741823-1)"
	most      = "1073741823"
	maxCalls  = 40
	maxProcs  = 8
	maxRounds = 300
	maxMarks  = 1500
)

// short answers the front of text, so that what is told stays short.
func short(text string) string { return text[:min(len(text), 300)] }

// times answers text so many times.
func times(text string, many int) string { return strings.Repeat(text, many) }

// played asks that the run of text by a script ends so, and prints that, its
// prints being parted by blanks.
func played(t *testing.T, text string, script []int, status, steps, made int, prints string) {
	t.Helper()
	r, f := Run(text, script)
	if f != (api.Fault{}) || r.Status != status || r.Steps != steps || r.Made != made || !slices.Equal(r.Prints, strings.Fields(prints)) {
		t.Errorf("%q %v: %d, %d steps, %d made, prints %v, %v; want %d, %d, %d, %s",
			short(text), script, r.Status, r.Steps, r.Made, r.Prints, f, status, steps, made, prints)
	}
}

// done asks that the run of text is Done after so many steps, and prints that.
func done(t *testing.T, text string, steps, made int, prints string) {
	t.Helper()
	played(t, text, nil, api.Done, steps, made, prints)
}

// fell asks that the run of text fell at that step, and prints that.
func fell(t *testing.T, text string, steps, made int, prints string) {
	t.Helper()
	played(t, text, nil, api.Fell, steps, made, prints)
}

// shows asks that the run of text is Done, and prints that, whatever its steps.
func shows(t *testing.T, text, prints string) {
	t.Helper()
	r, f := Run(text, nil)
	if f != (api.Fault{}) || r.Status != api.Done || !slices.Equal(r.Prints, strings.Fields(prints)) {
		t.Errorf("%q: %v %v, want %s", short(text), r, f, short(prints))
	}
}

func TestExample(t *testing.T) {
	done(t, "main { var g = gate; fork { print(1); signal(g); } wait(g); print(2); }", 6, 1, "1 2")
}

// TestExamplesOfTheWhole are those of the document's front.
func TestExamplesOfTheWhole(t *testing.T) {
	done(t, "class a { slot x; to put(v) { x = v; } to get() { return x; } } "+
		"main { var p = new a; var q = new a; p.put(1); q.put(2); swap(p, q); print(p.get()); print(p == q); }", 11, 2, "2 0")
	played(t, "main { var g = gate; fork { signal(g); } wait(g); wait(g); }", nil, api.Stuck, 4, 1, "")
	played(t, "class a { slot x; } main { while (1) { var t = new a; } }", nil, api.Out, maxMarks, maxMarks, "")
	done(t, "class a { slot x; } main { var i = 0; while (i < 99) { var t = new a; i = i + 1; } print(i); }", 100, 99, "99")
	done(t, "class a { to f() { } to g() { } } main { (new a).g(); }", 2, 1, "")
	done(t, "main { print(1 - 2 * 3); }", 1, 0, "-5")
}

// TestSlots: they are nil at first, those of the class that another one stands
// on are the first ones of that, too.
func TestSlots(t *testing.T) {
	a := "class a{slot x;slot y;to x(){return x;}to y(){return y;}to put(v,w){x=v;y=w;}}"
	b := "class b:a{slot z;to z(){return z;}to all(v,w,u){x=v;y=w;z=u;}}"
	c := "class c:b{slot w;to w(){return w;}to z(v){z=v;w=v+1;}}"
	show := "print(o.x());print(o.y());"
	shows(t, a+"main{var o=new a;"+show+"o.put(1,2);"+show+"o.put(nil,3);"+show+"}", "nil nil 1 2 nil 3")
	shows(t, a+b+"main{var o=new b;o.put(1,2);"+show+"print(o.z());o.all(4,5,6);"+show+"print(o.z());}", "1 2 nil 4 5 6")
	shows(t, a+b+c+"main{var o=new c;o.z(8);o.put(1,2);"+show+"print(o.z());print(o.w());}", "1 2 8 9")
	shows(t, a+"main{var o=new a;var p=new a;o.put(1,2);p.put(3,4);"+show+"print(p.x());}", "1 2 3")
}

// TestListsOfSlotsAreApart has classes that stand on one: what the one adds is
// not the other one's, however many there are.
func TestListsOfSlotsAreApart(t *testing.T) {
	front := "class a{"
	for i := range 9 {
		front += "slot s" + digits(i) + ";"
		shows(t, front+"}class b:a{slot x;to f(){x=1;return x;}}class c:a{slot y;to f(){y=2;return y;}}class d:b{slot z;to g(){z=3;return self.f()+x+z;}}"+
			"main{print((new b).f());print((new c).f());print((new d).g());}", "1 2 5")
	}
}

// TestNumbersOfSlots swaps self for things of other classes: the slot of a name
// is asked by its number in the class in which the method stands.
func TestNumbersOfSlots(t *testing.T) {
	a := "class a{slot p;slot q;to p(){return p;}to q(){return q;}to put(v,w){p=v;q=w;}}"
	b := "class b{slot q;slot r;slot p;to set(u,v,w){q=u;r=v;p=w;}" +
		"to read(o){swap(self,o);print(q);print(r);swap(self,o);print(q);}to write(o){swap(self,o);q=7;r=8;}}"
	do := "main{var o=new a;var s=new b;o.put(1,2);s.set(3,4,5);"
	shows(t, a+b+do+"s.read(o);}", "1 2 3")
	shows(t, a+b+do+"s.write(o);print(s.p());print(s.q());}", "7 8")
	under := "class u:a{slot z;to read(o){swap(self,o);print(p);print(q);print(z);}}"
	shows(t, a+b+under+"main{var o=new b;o.set(1,2,3);(new u).read(o);}", "1 2 3")
	// A method that stands in the class below asks by the number there.
	over := "class v:b{slot own;to own(){return own;}to keep(v){own=v;}}"
	wide := "class w{slot a;slot b;slot c;slot d;to d(){return d;}to is(v){d=v;}to see(o){swap(self,o);return d;}}"
	shows(t, b+over+wide+"main{var o=new v;o.keep(6);print((new w).see(o));}", "6")
}

// TestSelfWithoutSuchASlot swaps self for a gate, and for things with fewer
// slots.
func TestSelfWithoutSuchASlot(t *testing.T) {
	text := "class e{}class o{slot k;}class a{slot x;slot y;to x(o){swap(self,o);return x;}to y(o){swap(self,o);return y;}" +
		"to setx(o){swap(self,o);x=1;}to sety(o){swap(self,o);y=1;}}class b:a{slot z;to z(o){swap(self,o);return z;}to setz(o){swap(self,o);z=1;}}"
	for _, c := range []struct {
		call, made, has string
	}{
		{"x", "gate", "no"}, {"y", "gate", "no"}, {"z", "gate", "no"}, {"setx", "gate", "no"}, {"setz", "gate", "no"},
		{"x", "new e", "no"}, {"setx", "new e", "no"}, {"x", "new o", "yes"}, {"setx", "new o", "yes"}, {"y", "new o", "no"},
		{"sety", "new o", "no"}, {"y", "new a", "yes"}, {"sety", "new a", "yes"}, {"z", "new a", "no"}, {"setz", "new a", "no"},
		{"z", "new b", "yes"}, {"setz", "new b", "yes"}, {"x", "new b", "yes"},
	} {
		main := "main{print(0);(new b)." + c.call + "(" + c.made + ");print(1);}"
		if c.has == "yes" {
			done(t, text+main, 7, 2, "0 1")
		} else {
			fell(t, text+main, 6, 2, "0")
		}
	}
}

// TestEachMarkIsOneStep has one of each kind, and what is none.
func TestEachMarkIsOneStep(t *testing.T) {
	done(t, "main{}", 0, 0, "")
	done(t, "main{1;nil;var x=1;x=x+2*-3;x;x==nil;!x;if(x){}else{x=1;}while(x<0){x=x+1;}}", 0, 0, "")
	done(t, "main{gate;}", 1, 1, "")
	done(t, "class a{slot x;}main{new a;}", 1, 1, "")
	for call, steps := range map[string]int{"f": 2, "g": 3, "h": 3, "i": 4, "j": 2, "k": 2} {
		done(t, "class a{slot x;to f(){}to g(){x;}to h(){x=1;}to i(){x=x;}to j(){self;}to k(){return self;}}main{(new a)."+call+"();}", steps, 1, "")
	}
	done(t, "main{print(1);}", 1, 0, "1")
	done(t, "main{fork{}}", 1, 0, "")
	done(t, "main{fork{fork{}fork{fork{}}}}", 4, 0, "")
	done(t, "main{signal(gate);}", 2, 1, "")
	done(t, "main{var g=gate;signal(g);wait(g);}", 3, 1, "")
	done(t, "main{swap(gate,gate);}", 3, 2, "")
}

// TestClassesBehind makes things of classes that stand behind.
func TestClassesBehind(t *testing.T) {
	shows(t, "class a{to f(){return new b;}}class b{to g(){return new a;}}main{print((new a).f());print((new a).f().g());}", "b a")
}

func TestWhatIsPrinted(t *testing.T) {
	shows(t, "class a{}class bb:a{}class gate_{}main{print(0);print(-1);print(nil);print(gate);print(new a);print(new bb);print(new gate_);}",
		"0 -1 nil gate a bb gate_")
	shows(t, "main{print("+most+");print(-"+most+");print("+least+");print(1000000);print(-10);}", "1073741823 -1073741823 -1073741824 1000000 -10")
	shows(t, "class a{slot x;to f(){print(x);print(self);x=3;print(x);}}main{(new a).f();}", "nil a 3")
	long := times("x", 1900)
	shows(t, "class "+long+"{to f(){return self;}}main{print((new "+long+").f());}", long)
}

func TestCallsFindTheirMethods(t *testing.T) {
	a := "class a{to f(){return 1;}to f(x){return 2;}to g(){return 3;}to h(x,y){return 4;}}"
	b := "class b:a{to f(){return 5;}to g(x){return 6;}}"
	c := "class c:b{to g(){return 7;}}class d:a{to f(){return 8;}}"
	all := "print(o.f());print(o.f(1));print(o.g());print(o.h(1,2));"
	shows(t, a+b+c+"main{var o=new a;"+all+"}", "1 2 3 4")
	shows(t, a+b+c+"main{var o=new b;"+all+"print(o.g(1));}", "5 2 3 4 6")
	shows(t, a+b+c+"main{var o=new c;"+all+"print(o.g(1));}", "5 2 7 4 6")
	shows(t, a+b+c+"main{var o=new d;"+all+"}", "8 2 3 4")
	// The class is that of the thing, also where self is asked from above.
	shows(t, "class a{to f(){return self.g();}to g(){return 1;}}class b:a{to g(){return 2;}}main{print((new b).f());print((new a).f());}", "2 1")
}

func TestCallsThatFall(t *testing.T) {
	text := "class a{to f(){}to g(x){}}class b:a{to h(){}}class c{to i(){}}main{"
	fell(t, text+"(new a).h();print(1);}", 2, 1, "")
	fell(t, text+"(new b).i();}", 2, 1, "")
	fell(t, text+"(new a).f(1);}", 2, 1, "")
	fell(t, text+"(new b).g();}", 2, 1, "")
	fell(t, text+"(new b).g(1,2);}", 2, 1, "")
	fell(t, text+"(new a).F();}", 2, 1, "")
	fell(t, text+"(new a).a();}", 2, 1, "")
	fell(t, text+"nil.f();}", 1, 0, "")
	fell(t, text+"7.f();}", 1, 0, "")
	fell(t, text+"gate.f();}", 2, 1, "")
	// The exprs are reckoned ahead of the fall.
	fell(t, text+"nil.f(new a,gate);}", 3, 2, "")
	fell(t, text+"nil.f(new a,gate.g());}", 3, 2, "")
	fell(t, text+"nil.f(1+nil);print(1);}", 1, 0, "")
	done(t, text+"(new b).h();(new b).f();(new b).g(nil);}", 6, 3, "")
}

func TestValuesOfCalls(t *testing.T) {
	text := "class a{slot s;to none(){}to some(){1;var x=2;}to give(x){return x;return 9;}to me(){return self;}" +
		"to early(x){if(x){return 1;}while(1){return 2;}}to deep(x){while(1){if(x){if(1){return x;}}else{x=5;}}}to half(x){if(x){return 3;}}" +
		"to put(v){s=v;return s;}}main{var o=new a;"
	shows(t, text+"print(o.none());print(o.some());print(o.give(3));print(o.give(nil));print(o.me());print(o.me()==o);}", "nil nil 3 nil a 1")
	shows(t, text+"print(o.early(1));print(o.early(0));print(o.deep(7));print(o.deep(0));print(o.half(1));print(o.half(0));}", "1 2 7 5 3 nil")
	shows(t, text+"print(o.put(4)+o.give(o.give(5))*o.early(o.early(1)));print(o.give(1)-o.give(2)-o.give(3));}", "9 -4")
	shows(t, text+"print(1+(2*(3-o.give(-4))));print(o.me().me().give(o.give(6)));}", "15 6")
}

// TestOrder has what is seen of the order in which things are reckoned.
func TestOrder(t *testing.T) {
	text := "class a{to f(x){print(x);return x;}to g(x,y,z){print(0);return x-y-z;}to me(x){print(x);return self;}}main{var o=new a;"
	shows(t, text+"o.f(1)+o.f(2)*o.f(3);}", "1 2 3")
	shows(t, text+"(o.f(1)<o.f(2))==(o.f(3)-o.f(4));}", "1 2 3 4")
	shows(t, text+"print(o.me(1).g(o.f(2),o.f(3),o.f(4)));}", "1 2 3 4 0 -5")
	shows(t, text+"swap(o.me(1),o.me(2));if(o.f(3)){o.f(4);}else{o.f(5);}if(o.f(0)){o.f(6);}else{o.f(7);}}", "1 2 3 4 0 7")
	shows(t, text+"var i=0;while(o.f(i)<2){i=i+1;print(9);}}", "0 9 1 9 2")
}

func TestLocals(t *testing.T) {
	shows(t, "main{var x=1;if(1){print(x);var x=2;print(x);x=3;print(x);}print(x);x=4;print(x);}", "1 2 3 1 4")
	shows(t, "main{var x=1;if(1){x=5;var x=x+1;x=x+1;print(x);}print(x);}", "7 5")
	shows(t, "main{var i=0;while(i<3){var y=i*2;print(y);i=i+1;var z=y;}var z=7;print(z);}", "0 2 4 7")
	shows(t, "main{if(1){var x=1;var y=2;}var z=3;if(1){var y=4;print(z+y);}var x=5;print(z*x);}", "7 15")
	shows(t, "class a{slot x;to f(y,z){var x=y;y=z;z=x;print(x);print(y);print(z);}to g(){return x;}}"+
		"main{var o=new a;var x=9;o.f(1,2);print(o.g());print(x);}", "1 2 1 nil 9")
	shows(t, "class a{to f(n){if(n<1){return 0;}var m=n;var r=self.f(n-1);return r+m*10+n;}}main{print((new a).f(4));}", "110")
	shows(t, "class a{slot x;to f(){x=1;if(1){var x=2;print(x);x=3;}print(x);}}main{(new a).f();}", "2 1")
}

// TestForkedLocals: what a fork has is its own from then on, both ways.
func TestForkedLocals(t *testing.T) {
	text := "main{var g=gate;var h=gate;var x=1;if(1){var y=2;fork{print(x);print(y);x=3;y=4;signal(g);wait(h);print(x);print(y);signal(g);}" +
		"y=5;wait(g);print(x);print(y);x=6;y=7;signal(h);wait(g);}print(x);}"
	shows(t, text, "1 2 1 5 3 4 6")
	shows(t, "main{var x=1;fork{x=x+1;fork{x=x+10;print(x);}x=x+100;print(x);}var y=2;x=x+y;print(x);}", "3 102 12")
	// What is not there any more is not there in a fork, either.
	shows(t, "main{if(1){var x=1;var y=2;}fork{var z=3;var w=4;print(z);print(w);}var v=5;print(v);}", "5 3 4")
	shows(t, "class a{slot x;to f(y){x=y;fork{var me=self;print(me==self);print(x+y);x=9;}y=4;return self;}to x(){return x;}}"+
		"main{var o=new a;o.f(1);print(1);print(1);print(1);print(1);print(o.x());}", "1 1 1 1 1 1 2")
}

// replace puts expr where @ stands.
func replace(text, expr string) string { return strings.ReplaceAll(text, "@", expr) }
