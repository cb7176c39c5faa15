package sorts

import (
	"strings"
	"testing"

	"gesso/api"
	"gesso/model"
)

// safe asks whether text is safe.
func safe(t *testing.T, text string, want bool) {
	t.Helper()
	if is, f := Safe(text); is != want || f != (api.Fault{}) {
		t.Errorf("%q: %v %v, want %v", text, is, f, want)
	}
}

func TestSafe(t *testing.T) {
	safe(t, "main{}", true)
	safe(t, "class a{slot x;to f(){}}main{print(1);}", true)
	// What falls otherwise is not asked.
	safe(t, "main{print(1+nil);if(gate){}while(nil){}-gate;!nil;1<gate;1073741823+1;}", true)
	safe(t, "class a{slot x;to f(){x=1;print(x);}}class b{to f(){}}main{var p=new a;swap(p,new b);p.f();}", true)
}

func TestCallsThatAreSafe(t *testing.T) {
	front := "class a{to f(){}to f(x){}to g(){return self;}}class b:a{to h(){}}class c{to h(){}}"
	safe(t, front+"main{(new a).f();(new a).f(1);(new b).f();(new b).h();(new c).h();}", true)
	for _, call := range []string{"1.f()", "nil.f()", "gate.f()", "(1+2).f()", "new c.f()", "new c.h(1)", "new a.h()", "new a.k()", "new a.f(1,2)",
		"new a.g(1)", "new b.h(1)"} {
		safe(t, front+"main{"+call+";}", false)
	}
	// One sort that has none is enough.
	for _, other := range strings.Fields("1 nil gate new_c") {
		safe(t, front+"main{var p=new a;p.f();p="+strings.ReplaceAll(other, "_", " ")+";}", false)
	}
	safe(t, front+"main{var p=new a;p.f();p=new b;}", true)
	safe(t, front+"main{var p=new b;p.h();p=new c;}", true)
	safe(t, front+"main{var p=new b;p.h();p=new a;}", false)
	// An answer, a slot can be nil.
	safe(t, front+"main{(new a).g().f();}", false)
	safe(t, "class a{slot x;to f(){x.f();}}main{(new a).f();}", false)
	// Ahead of which nothing stands: no sort is without a method.
	safe(t, "class a{slot y;to f(x){x.f();self.g();y.f();}}main{}", true)
	// In what is never called, too.
	safe(t, "class a{to f(){nil.f();}}main{}", false)
}

func TestWaitsThatAreSafe(t *testing.T) {
	for _, word := range strings.Fields("wait signal") {
		safe(t, "main{"+word+"(gate);}", true)
		safe(t, "main{var g=gate;"+word+"(g);g=gate;}", true)
		for _, other := range strings.Fields("1 nil new_a") {
			other = strings.ReplaceAll(other, "_", " ")
			safe(t, "class a{}main{"+word+"("+other+");}", false)
			safe(t, "class a{}main{var g=gate;"+word+"(g);g="+other+";}", false)
		}
		safe(t, "class a{}main{var g=gate;"+word+"(g);swap(new a,gate);}", false)
		safe(t, "class a{to f(x){"+word+"(x);"+word+"(self);}}main{}", true)
		safe(t, "class a{to f(x){"+word+"(x);}}main{(new a).f(gate);}", true)
		safe(t, "class a{to f(x){"+word+"(x);}}main{(new a).f(gate);(new a).f(1);}", false)
		safe(t, "class a{slot x;to f(){x=gate;"+word+"(x);}}main{(new a).f();}", false)
		safe(t, "class a{to f(){return gate;}}main{"+word+"((new a).f());}", false)
	}
}

func TestSwapsThatAreSafe(t *testing.T) {
	for _, pair := range strings.Fields("gate,gate gate,new_a new_a,gate new_a,new_b new_a,new_a p,new_a gate,p p,p") {
		safe(t, "class a{}class b{}main{var p=new b;swap("+strings.ReplaceAll(pair, "_", " ")+");}", true)
	}
	for _, pair := range strings.Fields("1,1 nil,nil gate,1 1,gate gate,nil nil,gate new_a,1 1,new_a p,new_a gate,p p,p") {
		text := "class a{}class b{}main{var p=new b;swap(" + strings.ReplaceAll(pair, "_", " ") + ");"
		safe(t, text+"p=nil;}", false)
		safe(t, text+"p=1;}", false)
	}
	safe(t, "class a{to f(x){swap(self,x);}}main{}", true)
	safe(t, "class a{to f(x){swap(self,x);}}class b:a{}main{(new a).f(new b);}", true)
	// What is called is a gate by then, perhaps.
	safe(t, "class a{to f(x){swap(self,x);}}main{(new a).f(gate);}", false)
	safe(t, "class a{to f(x){swap(self,x);}}main{(new a).f(nil);}", false)
	// By a swap others are not safe any more.
	safe(t, "class a{to f(){}}class b{}main{var p=new a;p.f();}", true)
	safe(t, "class a{to f(){}}class b{}main{var p=new a;swap(p,new b);p.f();}", false)
	safe(t, "class a{to f(){}}class b{to f(){}}main{var p=new a;swap(p,new b);p.f();}", true)
	safe(t, "class a{to f(){}}main{var p=new a;swap(p,gate);p.f();}", false)
}

// runs asks that a run of text ends so, by a script, with those prints.
func runs(t *testing.T, text string, script []int, status int, want string) {
	t.Helper()
	r, f := model.Run(text, script)
	if r.Status != status || strings.Join(r.Prints, " ") != want || f != (api.Fault{}) {
		t.Errorf("%q: %v %v, want %d, %s", text, r, f, status, want)
	}
}

// TestRunsThatAreSafe has wait, signal and swap, and what a run that is safe
// falls by all the same.
func TestRunsThatAreSafe(t *testing.T) {
	text := "class a{to f(x){print(self);swap(self,x);print(self);}}class b{to f(x){print(x);}}" +
		"main{var g=gate;var p=new a;var q=new b;fork{p.f(q);signal(g);}wait(g);p.f(p);}"
	safe(t, text, true)
	tells(t, text, "a b", "a b", "a b")
	runs(t, text, nil, api.Done, "a b b")
	whole := "class a { slot x; to put(v) { x = v; } to get() { return x; } } " +
		"main { var p = new a; var q = new a; p.put(1); q.put(2); swap(p, q); print(p.get()); print(p == q); }"
	safe(t, whole, true)
	tells(t, whole, "number nil", "number")
	runs(t, whole, nil, api.Done, "2 0")
	// The two may be printed in either order.
	forked := "class a{}main{var p=new a;var g=gate;fork{swap(p,g);}print(p);}"
	safe(t, forked, true)
	tells(t, forked, "gate a")
	runs(t, forked, nil, api.Done, "a")
	runs(t, forked, []int{1}, api.Done, "gate")
	for _, falls := range []string{"class a{to f(){self.f();}}main{(new a).f();}", "main{print(1+nil);}", "main{if(nil){}}", "main{while(1){fork{}}}",
		"class a{slot x;to f(){swap(self,new b);print(x);}}class b{to f(){}}main{(new a).f();}"} {
		safe(t, falls, true)
		runs(t, falls, nil, api.Fell, "")
	}
}
