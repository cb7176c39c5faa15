package sorts

import (
	"slices"
	"strings"
	"testing"

	"gesso/api"
	"gesso/check"
)

// The sorts stand here as plain digits, so that a slip in how the program works
// them out is seen.
const (
	number = -3
	null   = -2
	gate   = -1
)

// short answers the front of text, so that what is told stays short.
func short(text string) string { return text[:min(len(text), 200)] }

// checked answers the node of text, which is a program.
func checked(t *testing.T, text string) api.Node {
	t.Helper()
	n, f := check.Check(text)
	if f != (api.Fault{}) {
		t.Fatalf("%q: %v", short(text), f)
	}
	return n
}

// flat answers n and all nodes in it, in the order of their numbers.
func flat(n api.Node) []api.Node {
	all := []api.Node{n}
	for _, kid := range n.Kids {
		all = append(all, flat(kid)...)
	}
	return all
}

// tell answers the sorts of text, which is a program. Each list of them has to
// be rising, and no sort that can't be may stand in it.
func tell(t *testing.T, text string) [][]int {
	t.Helper()
	n := checked(t, text)
	all, f := Tell(text)
	if f != (api.Fault{}) || len(all) != len(flat(n)) {
		t.Fatalf("%q: %d lists of %d nodes, %v", short(text), len(all), len(flat(n)), f)
	}
	for at, sorts := range all {
		for i, sort := range sorts {
			if sort < number || sort >= len(n.Kids)-1 || i > 0 && sort <= sorts[i-1] {
				t.Fatalf("%q: %v of node %d", short(text), sorts, at)
			}
		}
	}
	return all
}

// tellsAll asks that text has just those sorts, node by node.
func tellsAll(t *testing.T, text string, want ...[]int) {
	t.Helper()
	if all := tell(t, text); !slices.EqualFunc(all, want, slices.Equal) {
		t.Errorf("%q:\n%v, want\n%v", text, all, want)
	}
}

// named answers sorts as a text, with the names of classes.
func named(n api.Node, sorts []int) string {
	var all []string
	for _, sort := range sorts {
		if sort < 0 {
			all = append(all, strings.Fields("number nil gate")[sort-number])
		} else {
			all = append(all, n.Kids[sort].Text)
		}
	}
	return strings.Join(all, " ")
}

// prints answers the sorts of the expr of each NPrint in text, as they stand.
func prints(t *testing.T, text string) []string {
	t.Helper()
	n, all := checked(t, text), tell(t, text)
	var got []string
	for at, node := range flat(n) {
		if node.Kind == api.NPrint {
			got = append(got, named(n, all[at+1]))
		}
	}
	return got
}

// tells asks that the exprs of the NPrints of text have those sorts. What is
// printed is what is looked at: an NPrint changes no set.
func tells(t *testing.T, text string, want ...string) {
	t.Helper()
	if got := prints(t, text); !slices.Equal(got, want) {
		t.Errorf("%q:\n%q, want\n%q", text, got, want)
	}
}

var (
	none []int
	num  = []int{number}
)

func TestExample(t *testing.T) {
	text := "main { var g = gate; wait(g); }"
	tellsAll(t, text, none, none, none, []int{gate}, none, []int{gate})
	if is, f := Safe(text); !is || f != (api.Fault{}) {
		t.Error(is, f)
	}
}

func TestNothing(t *testing.T) {
	tellsAll(t, "main{}", none, none)
	tellsAll(t, "class a{}main{}", none, none, none)
	tellsAll(t, "class a{slot x;slot y;to f(x,y){}}class b:a{}main{}", none, none, none, none, none, none, none, none, none, none, none)
}

// TestEachKind has all kinds of nodes: expressions, and those that are none.
func TestEachKind(t *testing.T) {
	tellsAll(t, "main{7;nil;gate;}", none, none, none, num, none, []int{null}, none, []int{gate})
	for _, sign := range strings.Fields("+ - * < ==") {
		tellsAll(t, "main{1"+sign+"2;}", none, none, none, num, num, num)
		tellsAll(t, "main{nil"+sign+"gate;}", none, none, none, num, []int{null}, []int{gate})
	}
	for _, sign := range strings.Fields("- !") {
		tellsAll(t, "main{"+sign+"1;}", none, none, none, num, num)
		tellsAll(t, "main{"+sign+"gate;}", none, none, none, num, []int{gate})
	}
	// The name of the class that b stands on is an NName, but no expression.
	tellsAll(t, "class a{slot x;to f(y){return self;}}class b:a{}main{new a;new b;}",
		none, none, none, none, none, none, none, none, none, none, none, none, []int{0}, none, []int{1})
	tellsAll(t, "class a{to f(y){y=y;return self;}}main{var x=(new a).f(1);x;}",
		none, none, none, none, none, none, num, none, []int{0},
		none, none, []int{null, 0}, []int{0}, num, none, []int{null, 0})
	tellsAll(t, "main{if(1){print(gate);}else{signal(gate);}while(nil){wait(gate);}fork{swap(gate,gate);}}",
		none, none, none, num, none, none, []int{gate}, none, none, []int{gate}, none, []int{null}, none, none, []int{gate},
		none, none, none, []int{gate}, []int{gate})
	tellsAll(t, "class a{slot x;to f(){x=1;x;}}main{(new a).f();}", none, none, none, none, none, none, num, none,
		[]int{number, null}, none, none, []int{null}, []int{0})
}

// TestNumbersOfClasses are those of their places; a new may stand ahead.
func TestNumbersOfClasses(t *testing.T) {
	tellsAll(t, "class c{to f(){new a;new b;}}class b{}class a:c{}main{new c;}", none, none, none, none, none, []int{2}, none, []int{1},
		none, none, none, none, none, []int{0})
}

func TestLocals(t *testing.T) {
	tells(t, "main{var x=1;print(x);}", "number")
	tells(t, "main{var x=1;var y=x;var z=y;print(z);}", "number")
	// A set gives what it has to all places, also to those ahead of it.
	tells(t, "main{var x=1;print(x);x=nil;print(x);x=gate;}", "number nil gate", "number nil gate")
	tells(t, "main{var x=nil;var y=gate;x=y;y=1;print(x);print(y);}", "number nil gate", "number gate")
	// In an inner block, in a fork: it is the same local, and not one of that
	// name that is made there.
	tells(t, "main{var x=1;if(1){x=nil;print(x);}else{x=gate;}print(x);}", "number nil gate", "number nil gate")
	tells(t, "main{var x=1;while(1){while(1){x=nil;}}print(x);}", "number nil")
	tells(t, "main{var x=1;fork{x=nil;fork{x=gate;print(x);}}print(x);}", "number nil gate", "number nil gate")
	tells(t, "main{var x=1;if(1){print(x);var x=nil;x=gate;print(x);}print(x);}", "number", "nil gate", "number")
	tells(t, "main{var x=1;fork{var x=nil;print(x);x=gate;}print(x);}", "nil gate", "number")
	tells(t, "main{if(1){var x=1;print(x);}else{var x=nil;print(x);}var x=gate;print(x);}", "number", "nil", "gate")
	// The expr of a var is of the outer one of that name.
	tells(t, "main{var x=1;if(1){var x=x;x=nil;print(x);}print(x);}", "number nil", "number")
	tells(t, "class a{slot x;to f(){var x=x;x=1;print(x);}to g(){print(x);}}main{(new a).f();(new a).g();}", "number nil", "nil")
	tells(t, "class a{slot x;to f(x){x=gate;print(x);}to g(){print(x);}}main{(new a).f(1);(new a).g();}", "number gate", "nil")
}

func TestNamesInParentheses(t *testing.T) {
	tells(t, "class a{to f(x,y){print(x);print(y);}}main{(new a).f(1,nil);}", "number", "nil")
	// From several places.
	tells(t, "class a{to f(x,y){print(x);print(y);}to g(){self.f(self,gate);}}main{(new a).f(1,1);(new a).f(nil,gate);(new a).g();}",
		"number nil a", "number gate")
	// Never.
	tells(t, "class a{to f(x){print(x);var y=x;print(y);x=1;}to g(x){print(x);}}main{}", "number", "number", "")
	// By a call that stands in what is never called.
	tells(t, "class a{to f(x){print(x);}to g(x){(new a).f(gate);(new a).f(x);}}main{}", "gate")
	tells(t, "class a{to f(x){x=nil;fork{x=gate;var x=7;}print(x);}}main{(new a).f(1);}", "number nil gate")
	// Each method has its own.
	tells(t, "class a{to f(x){print(x);}to f(x,y){print(x);}to g(x){print(x);}}class b{to f(x){print(x);}}main{(new a).f(1);(new a).f(nil,1);(new b).f(gate);}",
		"number", "nil", "", "gate")
}

func TestSelf(t *testing.T) {
	tells(t, "class a{to f(){print(self);}}main{(new a).f();}", "a")
	tells(t, "class a{to f(){print(self);}}main{}", "")
	tells(t, "class a{to f(){print(self);}to g(){print(self);}}main{(new a).f();}", "a", "")
	// Several classes that stand on the one in which it stands.
	tells(t, "class a{to f(){print(self);}}class b:a{}class c:b{}class d:a{}main{(new c).f();(new b).f();}", "b c")
	tells(t, "class a{to f(){print(self);}}class b:a{to f(){print(self);}}class c:b{}main{var x=new a;x=new b;x=new c;x.f();}", "a", "b c")
	tells(t, "class a{to f(){fork{fork{print(self);}}}}class b:a{}main{(new b).f();}", "b")
	tells(t, "class a{to f(){self.g();}to g(){print(self);}}class b:a{to g(){print(self);}}main{(new a).f();(new b).f();}", "a", "b")
}

func TestSlots(t *testing.T) {
	tells(t, "class a{slot x;to f(){print(x);}}main{(new a).f();}", "nil")
	tells(t, "class a{slot x;slot y;to f(){print(x);x=1;print(y);}}main{(new a).f();}", "number nil", "nil")
	// Of a method whose self is nothing, a slot is nothing, and is given nothing.
	tells(t, "class a{slot x;to f(){print(x);}to g(){x=1;print(x);}}main{(new a).f();}", "nil", "")
	tells(t, "class a{slot x;to f(){print(x);}to g(v){x=v;}}main{(new a).f();(new a).g(gate);}", "nil gate")
	tells(t, "class a{slot x;to f(){fork{x=1;}print(x);}}main{(new a).f();}", "number nil")
}

// TestSlotsOfClassesOnOthers are each class's own, whichever class the method
// stands in.
func TestSlotsOfClassesOnOthers(t *testing.T) {
	front := "class a{slot x;to f(){print(x);}}class b:a{slot y;to g(){x=1;y=gate;}to h(){print(x);print(y);}}"
	tells(t, front+"main{(new a).f();(new b).g();(new b).h();}", "nil", "number nil", "nil gate")
	tells(t, front+"main{(new b).f();(new b).g();(new b).h();}", "number nil", "number nil", "nil gate")
	tells(t, front+"main{var p=new a;p=new b;p.f();(new b).h();}", "nil", "nil", "nil")
	// The number is that in the class in which the method stands.
	tells(t, "class a{slot x;slot y;}class b:a{slot z;to f(){z=1;}to g(){print(x);print(y);print(z);}}main{(new b).f();(new b).g();}",
		"nil", "nil", "number nil")
	tells(t, "class a{slot x;to f(){x=1;}}class b:a{to g(){print(x);}}class c:b{to h(){print(x);}}main{(new b).f();(new b).g();(new c).h();}",
		"number nil", "nil")
	// Two that stand on the same one.
	tells(t, "class a{slot x;slot y;slot z;}class b:a{slot u;to f(){u=1;print(u);print(z);}}class c:a{slot v;to f(){v=gate;print(v);z=v;}}"+
		"main{print((new b).f());print((new c).f());}", "number nil", "nil", "nil gate", "nil", "nil")
}

// TestSlotsOfOthers has a self that another class can be swapped for: the number
// is asked of it, if it has so many.
func TestSlotsOfOthers(t *testing.T) {
	front := "class a{slot x;slot y;to f(){x=1;y=gate;}to g(){print(x);print(y);}}"
	tells(t, front+"class b{slot v;slot w;to g(){print(v);print(w);}}main{(new a).f();(new b).g();swap(new a,new b);}",
		"number nil", "nil gate", "number nil", "nil gate")
	tells(t, front+"class b{slot v;to h(){print(v);}}main{(new a).f();(new a).g();(new b).h();swap(new a,new b);}",
		"number nil", "nil gate", "number nil")
	tells(t, front+"class b{}main{(new a).f();(new a).g();swap(new a,new b);}", "number nil", "nil gate")
	tells(t, front+"class b:a{slot z;to h(){z=new b;print(z);}}main{(new b).f();(new b).g();(new b).h();swap(new a,new b);}",
		"number nil", "nil gate", "nil a b")
	// A gate has no slots.
	tells(t, front+"main{(new a).f();(new a).g();swap(new a,gate);}", "number nil", "nil gate a")
	// What b has at the number that a method of a names.
	tells(t, "class a{slot x;slot y;to g(){print(x);print(y);}}class b{slot v;slot w;to f(){w=7;}}main{(new b).f();var p=new a;swap(p,new b);p.g();}",
		"nil", "number nil")
}

func TestAnswers(t *testing.T) {
	tells(t, "class a{to f(){}to g(){return 1;}to h(){return nil;}}main{print((new a).f());print((new a).g());print((new a).h());}",
		"nil", "number nil", "nil")
	tells(t, "class a{to f(x){if(x){return 1;}else{while(1){return gate;}}return self;}}main{print((new a).f(1));}", "number nil gate a")
	tells(t, "class a{to f(x){return x;}}main{print((new a).f(gate));print((new a).f(1));}", "number nil gate", "number nil gate")
	tells(t, "class a{to f(){return 1;}to f(x){return gate;}to g(){return self;}}main{print((new a).f());print((new a).f(1));}",
		"number nil", "nil gate")
	tells(t, "class a{to f(){return self;}}class b:a{to f(){return 1;}}main{var p=new a;p=new b;print(p.f());print((new b).f());}",
		"number nil a", "number nil")
	tells(t, "class a{to f(){fork{print(1);}}}main{print((new a).f());print((new a).f().f());}", "number", "nil", "")
}

func TestCalls(t *testing.T) {
	// Of what has no method an NCall has nothing, and its exprs go nowhere.
	front := "class a{to f(x){print(x);return 1;}}class b{to g(x){}}"
	for _, ahead := range strings.Fields("7 nil gate (1+2) (new_b) (1==2)") {
		tells(t, front+"main{print("+strings.ReplaceAll(ahead, "_", " ")+".f(1));}", "", "")
	}
	// With another number of names.
	tells(t, front+"main{print((new a).f());print((new a).f(1,2));print((new a).g(1));}", "", "", "", "")
	tells(t, front+"main{var x=7;x=nil;x=gate;x=new b;x=new a;print(x.f(gate));}", "gate", "number nil")
	// Found in the class it stands on, or in the one that that one stands on.
	tells(t, "class a{to f(){return 1;}}class b:a{}class c:b{}main{print((new b).f());print((new c).f());}", "number nil", "number nil")
	tells(t, "class a{to f(){return 1;}}class b:a{to f(){return gate;}}class c:b{}main{print((new a).f());print((new b).f());print((new c).f());}",
		"number nil", "nil gate", "nil gate")
	tells(t, "class a{to f(){return 1;}}class b:a{to f(x){return gate;}}main{print((new b).f());print((new b).f(1));}", "number nil", "nil gate")
	// A class that stands behind, or beside, does not help.
	tells(t, "class a{}class b:a{to f(){return 1;}}class c:a{}main{print((new a).f());print((new c).f());}", "", "")
	// Exprs are what they are, though nothing is found.
	tells(t, "main{print(nil.f(gate));print(nil.f(1,gate,nil));}", "", "")
	tellsAll(t, "main{nil.f(1,gate);}", none, none, none, none, []int{null}, num, []int{gate})
	// Several methods are found by one call.
	tells(t, "class a{to f(x){print(x);return 1;}}class b{to f(y){print(y);return gate;}}main{var p=new a;p=new b;print(p.f(p));}",
		"a b", "a b", "number nil gate")
}

// TestRings has methods and slots that go round.
func TestRings(t *testing.T) {
	tells(t, "class a{to f(x){print(x);return self.g(x);}to g(x){print(x);return self.f(x);}}main{print((new a).f(1));}",
		"number", "number", "nil")
	tells(t, "class a{to f(x){if(x){return x;}return self.g(x,gate);}to g(x,y){print(y);return self.f(y);}}main{print((new a).f(1));}",
		"gate", "number nil gate")
	tells(t, "class a{to f(){return self.f();}}main{print((new a).f());}", "nil")
	tells(t, "class a{slot x;slot y;slot z;to f(){x=y;y=z;z=x;print(x);}to g(){z=1;}}main{(new a).f();(new a).g();}", "number nil")
	// A thing that is come to only by way of another one.
	tells(t, "class a{slot x;to f(){return x.f();}to put(v){x=v;}}class b{to f(){return new c;}}class c{to f(){return gate;}}"+
		"main{var p=new a;p.put(new b);print(p.f());print(p.f().f());}", "nil c", "nil gate")
	tells(t, "class a{to next(){return new b;}}class b{to next(){return new c;}}class c{to next(){return new a;}}"+
		"main{var p=new a;while(1){p=p.next();}print(p);}", "nil a b c")
	tells(t, "main{var x=1;var y=nil;var z=gate;while(1){x=y;y=z;z=x;}print(x);print(y);print(z);}",
		"number nil gate", "number nil gate", "number nil gate")
}

func TestSwaps(t *testing.T) {
	tells(t, "class a{}class b{}main{var p=new a;var q=new b;swap(p,q);print(p);print(q);print(new a);print(new b);}", "a b", "a b", "a b", "a b")
	tells(t, "class a{}class b{}class c{}main{var p=new a;swap(p,gate);print(p);print(gate);print(new b);}", "gate a", "gate a", "b")
	tells(t, "class a{}main{var p=new a;swap(gate,p);print(p);print(gate);}", "gate a", "gate a")
	// A class and itself.
	tells(t, "class a{}class b{}main{swap(new a,new a);swap(gate,gate);print(new a);print(gate);print(new b);}", "a", "gate", "b")
	tells(t, "class a{}class b{}main{var p=new a;swap(p,p);p=new b;print(p);print(new a);}", "a b", "a b")
	// Sets that have none of them stay as they are.
	tells(t, "class a{}class b{}main{swap(new a,new b);print(1);print(nil);print(gate);print(1==2);}", "number", "nil", "gate", "number")
	// One of each pair is enough.
	tells(t, "class a{}class b{}class c{}main{var p=new a;p=new b;print(new a);print(new b);print(new c);swap(p,new c);}", "a b c", "a b c", "a b c")
	tells(t, "class a{}class b{}class c{}class d{}main{swap(new a,new b);swap(new c,new d);print(new a);print(new d);}", "a b", "c d")
	tells(t, "class a{}class b{}class c{}class d{}main{swap(new a,new b);swap(new c,new d);swap(new a,new d);print(new b);}", "a b c d")
	tells(t, "class a{}class b{}class c{}main{swap(new a,new b);swap(new b,new c);print(new a);}", "a b c")
}

// TestSwapsOfNoThings: what is no thing is swapped for nothing.
func TestSwapsOfNoThings(t *testing.T) {
	front := "class a{}class b{}main{"
	for _, pair := range strings.Fields("1,nil nil,nil 2,3 new_a,1 new_a,nil 1,new_a nil,new_a gate,nil nil,gate gate,1 new_a,nil.f() (1==2),new_a") {
		tells(t, front+"swap("+strings.ReplaceAll(pair, "_", " ")+");print(new a);print(new b);print(gate);print(1);print(nil);}",
			"a", "b", "gate", "number", "nil")
	}
	// But what else it can be.
	tells(t, front+"var p=new a;p=1;p=nil;var q=new b;q=nil;q=1;swap(p,q);print(p);print(q);print(new a);print(1);print(nil);}",
		"number nil a b", "number nil a b", "a b", "number", "nil")
	tells(t, front+"var p=new a;p=nil;var q=1;swap(p,q);print(p);print(q);print(new a);}", "nil a", "number", "a")
	tells(t, "class a{slot x;to f(){swap(self,x);print(x);x=gate;}}main{(new a).f();print(new a);print(gate);}", "nil gate a", "gate a", "gate a")
}

// TestSwapsFarOff: all sets have the other one, too, wherever they are.
func TestSwapsFarOff(t *testing.T) {
	swap := "class z{to swaps(){swap(new a,new b);}}"
	tells(t, "class a{to f(){print(self);return self;}}class b{}"+swap+"main{print((new a).f());}", "a b", "nil a b")
	tells(t, "class a{slot x;to f(v){x=v;print(x);print(v);}}class b{}"+swap+"main{(new a).f(new a);}", "nil a b", "a b")
	tells(t, "class a{to f(){print(self);}}class b{to f(){print(self);}}"+swap+"main{(new a).f();}", "a b", "a b")
	// A method that is found by the swap alone.
	tells(t, "class a{}class b{to f(x){print(x);return gate;}}"+swap+"main{print((new a).f(1));}", "number", "nil gate")
	// In a method that is never called: names in parentheses and self are nothing.
	tells(t, "class a{to f(x){swap(self,x);swap(x,new b);swap(self,new b);}}class b{}main{print(new a);print(new b);}", "a", "b")
	tells(t, "class a{to f(x){swap(self,x);}}class b{}class c{}main{(new a).f(new c);print(new a);print(new b);print(new c);}", "a c", "b", "a c")
}

// TestSwapsOfSetsThatGrow has swaps that are found, and sets that get their
// sorts, late.
func TestSwapsOfSetsThatGrow(t *testing.T) {
	tells(t, "class a{}class b{}class c{}main{var p=nil;var q=nil;swap(p,q);print(new a);p=new a;q=p;p=new b;print(new b);}", "a b", "a b")
	tells(t, "class a{to f(x){return x;}}class b{}class c{}main{var p=new a;swap(p.f(p),p.f(new b));var q=nil;print(q);q=(new a).f(nil);}",
		"nil a b")
	// By the swap a method is found, that answers what is swapped, too.
	tells(t, "class a{}class b{to f(){return new c;}}class c{}class d{}main{print(new a);print(new d);var p=new a;swap(p,new b);swap(p.f(),new d);}",
		"a b", "c d")
	tells(t, "class a{}class b{to f(){swap(self,new c);}}class c{to f(){swap(self,gate);}}main{print(gate);var p=new a;p.f();swap(p,new b);}",
		"gate a b c")
	tells(t, "main{var x=nil;print(x);swap(x,gate);x=gate;}", "nil gate")
}

// TestSwapsAreKept: a set that grows when others have been swapped since has
// both, at once.
func TestSwapsAreKept(t *testing.T) {
	w := &web{}
	w.fresh(6)
	for class := range 4 {
		w.give(class, of(class))
	}
	w.swap(0, 1)
	w.swap(2, 3)
	w.give(4, of(1))
	w.give(5, of(2))
	if w.sets[4] != of(0, 1) || w.sets[5] != of(2, 3) {
		t.Error(w.sets)
	}
}
