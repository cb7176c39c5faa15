package model

import (
	"testing"

	"gesso/api"
)

func TestGates(t *testing.T) {
	// A count is 0 at first, and each gate has its own.
	played(t, "main{wait(gate);}", nil, api.Stuck, 1, 1, "")
	played(t, "main{print(1);var g=gate;wait(g);print(2);}", nil, api.Stuck, 2, 1, "1")
	played(t, "main{var g=gate;var h=gate;signal(g);wait(h);}", nil, api.Stuck, 3, 2, "")
	done(t, "main{var g=gate;var h=g;signal(g);wait(h);}", 3, 1, "")
	done(t, "main{var g=gate;signal(g);signal(g);wait(g);wait(g);}", 5, 1, "")
	played(t, "main{var g=gate;signal(g);signal(g);wait(g);wait(g);wait(g);}", nil, api.Stuck, 5, 1, "")
	// One signal lets one go on: the one that is picked.
	two := "main{var g=gate;fork{wait(g);print(1);}fork{wait(g);print(2);}signal(g);}"
	played(t, two, nil, api.Stuck, 6, 1, "1")
	played(t, two, []int{0, 0}, api.Stuck, 6, 1, "1")
	played(t, two, []int{1}, api.Stuck, 6, 1, "2")
}

func TestWaitsAndSignalsOfWhatIsNoGate(t *testing.T) {
	for _, expr := range []string{"1", "0", "nil"} {
		fell(t, "main{wait("+expr+");print(1);}", 1, 0, "")
		fell(t, "main{signal("+expr+");print(1);}", 1, 0, "")
	}
	fell(t, "class a{}main{wait(new a);print(1);}", 2, 1, "")
	fell(t, "class a{}main{signal(new a);print(1);}", 2, 1, "")
	// It falls when it is picked: others may go on until then.
	played(t, "main{fork{print(1);print(2);}wait(nil);}", []int{1, 1}, api.Fell, 4, 0, "1 2")
	played(t, "main{fork{print(1);print(2);}wait(nil);}", []int{1}, api.Fell, 3, 0, "1")
	played(t, "main{fork{print(1);print(2);}wait(nil);}", nil, api.Fell, 2, 0, "")
}

// TestSwaps has things whose classes and slots tell who is who.
func TestSwaps(t *testing.T) {
	text := "class a{slot x;to put(v){x=v;}to get(){return x;}}class b:a{}main{var p=new a;var q=new b;p.put(1);q.put(2);var r=p;"
	shows(t, text+"swap(p,q);print(p);print(q);print(p.get());print(q.get());print(r);print(r==p);print(p==q);}", "b a 2 1 b 1 0")
	shows(t, text+"swap(p,q);swap(p,q);print(p);print(q);print(p.get());}", "a b 1")
	shows(t, text+"swap(p,q);swap(q,p);print(p);print(q);}", "a b")
	shows(t, text+"swap(p,p);print(p);print(p.get());swap(q,q);print(q);swap(p,r);print(p==r);}", "a 1 b 1")
	shows(t, text+"p.put(q);q.put(p);swap(p,q);print(p.get()==p);print(q.get()==q);print(p.get());print(q.get());}", "1 1 b a")
	shows(t, text+"p.put(p);q.put(p);swap(p,q);print(p.get()==p);print(q.get()==p);print(p);}", "1 1 b")
	shows(t, text+"p.put(q);q.put(q);swap(p,q);print(p.get()==q);print(q.get()==q);print(p);}", "1 1 b")
	shows(t, text+"var g=gate;signal(g);swap(p,g);print(p);print(g);print(g.get());wait(p);signal(p);swap(g,p);wait(g);print(p.get());}", "gate a 1 1")
	done(t, "main{var g=gate;var h=gate;signal(g);swap(g,h);wait(h);}", 5, 2, "")
	played(t, "main{var g=gate;var h=gate;signal(g);swap(g,h);wait(g);}", nil, api.Stuck, 4, 2, "")
}

func TestSwapsOfWhatIsNoThing(t *testing.T) {
	for _, pair := range []string{"1,2", "nil,nil", "1,gate", "gate,1", "nil,gate", "gate,nil", "new a,nil", "nil,new a", "0,new a", "1,1"} {
		text := "class a{}main{swap(" + pair + ");print(1);}"
		steps := 1
		if len(pair) > 4 && pair != "nil,nil" {
			steps++
		}
		fell(t, text, steps, steps-1, "")
	}
}

// TestSwapsOfSelves: self is who was named, wherever methods are at work.
func TestSwapsOfSelves(t *testing.T) {
	text := "class a{slot x;to put(v){x=v;}to turn(o){print(self);swap(self,o);print(self);print(x);print(o);x=9;}" +
		"to deep(o){self.turn(o);print(self);print(x);}to get(){return x;}to give(o){swap(self,o);return self;}}" +
		"class b:a{}main{var p=new a;var q=new b;p.put(1);q.put(2);"
	shows(t, text+"p.turn(q);print(p);print(p.get());print(q);print(q.get());}", "a b 2 a b 9 a 1")
	shows(t, text+"p.deep(q);print(p);}", "a b 2 a b 9 b")
	shows(t, text+"print(p.give(q));print(p);}", "b b")
	// The method that is at work stays what it is, who self is changes.
	shows(t, "class a{to f(o){swap(self,o);print(self.n());return 1;}to n(){return 2;}}class b{to n(){return 3;}}main{print((new a).f(new b));}", "3 1")
	fell(t, "class a{to f(o){swap(self,o);self.n();}to n(){return 2;}}class b{}main{(new a).f(new b);}", 5, 2, "")
	shows(t, "class a{slot x;to f(o){fork{print(self);}swap(self,o);}}class b{}main{(new a).f(new b);}", "b")
}

// TestSwapsOfWhatIsBeingReckoned swaps while values wait for others.
func TestSwapsOfWhatIsBeingReckoned(t *testing.T) {
	text := "class a{slot x;to put(v){x=v;return self;}to get(){return x;}to turn(o){swap(self,o);return 0;}to id(o,n){print(o);return self;}to two(o,n,m){print(o);print(m);}}" +
		"class b:a{}main{var p=(new a).put(1);var q=(new b).put(2);"
	shows(t, text+"print(p.id(p,p.turn(q)));}", "b b")
	shows(t, text+"p.two(q,p.turn(q),q);}", "a a")
	shows(t, text+"var p2=p;print((p2==p)+p.turn(q)+(p2==p));}", "2")
	shows(t, text+"print(p.put(p).get()==q.put(p.turn(q)));}", "0")
	// p is reckoned ahead of the call that swaps it, q behind.
	shows(t, "class a{slot x;to f(o){swap(self,o);return self;}}class b{}main{var p=new a;var q=new b;print(p==p.f(q));print(p);print(q);}", "1 b a")
	shows(t, "class a{slot k;to hold(v,w){k=w;print(v);}to t(o){swap(self,o);}}class b{}main{var p=new a;var q=new b;var h=new a;h.hold(p,p.t(q));}", "b")
	shows(t, "class a{to t(o){swap(self,o);return 5;}}class b{}class c{slot s;to f(p,q){s=p;print(s);s=p.t(q);print(p);print(s);}}"+
		"main{(new c).f(new a,new b);}", "a b 5")
}

// TestSwapsOfOtherProcesses swaps while others stand at marks.
func TestSwapsOfOtherProcesses(t *testing.T) {
	ab := "class a{to n(){return 1;}}class b{to n(){return 2;}}"
	// At a print, a call, a signal.
	played(t, ab+"main{var p=new a;var q=new b;fork{print(p);}swap(p,q);}", []int{0}, api.Done, 5, 2, "b")
	played(t, ab+"main{var p=new a;var q=new b;fork{print(p);}swap(p,q);}", []int{1}, api.Done, 5, 2, "a")
	played(t, ab+"main{var p=new a;var q=new b;fork{print(p.n());}swap(p,q);}", []int{0}, api.Done, 6, 2, "2")
	played(t, ab+"main{var p=new a;var q=new b;fork{print(p.n());}swap(p,q);}", []int{1, 1}, api.Done, 6, 2, "1")
	played(t, ab+"main{var p=new a;var q=gate;fork{signal(p);}swap(p,q);wait(p);print(7);}", []int{0}, api.Done, 7, 2, "7")
	played(t, ab+"main{var p=new a;var q=gate;fork{signal(p);}swap(p,q);wait(p);print(7);}", []int{1}, api.Fell, 4, 2, "")
	// At a wait: of another gate, and of what is no gate any more.
	played(t, "main{var g=gate;var h=gate;signal(h);fork{wait(g);print(1);}swap(g,h);wait(g);}", []int{1, 1}, api.Stuck, 7, 2, "1")
	played(t, ab+"main{var g=gate;var p=new a;fork{wait(g);print(1);}swap(g,p);print(2);}", nil, api.Fell, 6, 2, "2")
	played(t, ab+"main{var g=gate;var p=new a;fork{wait(g);print(1);}swap(g,p);print(2);}", []int{1}, api.Fell, 5, 2, "")
	played(t, ab+"main{var g=gate;var p=new a;fork{wait(p);}swap(g,p);}", nil, api.Stuck, 4, 2, "")
	// Two swaps of the same ones, at one time.
	played(t, ab+"main{var p=new a;var q=new b;fork{swap(p,q);print(p);}swap(q,p);print(q);}", []int{0, 1}, api.Done, 7, 2, "b a")
}

func TestConditions(t *testing.T) {
	shows(t, "main{if(1){print(1);}if(-1){print(2);}if(0){print(3);}if(0){print(4);}else{print(5);}if("+least+"){print(6);}else{print(7);}}", "1 2 5 6")
	shows(t, "main{while(0){print(1);}var i=-2;while(i){print(i);i=i+1;}}", "-2 -1")
	for _, expr := range []string{"nil", "gate", "new a", "o"} {
		for _, statement := range []string{"if(@){print(1);}", "if(@){}else{print(1);}", "while(@){print(1);}"} {
			r, f := Run("class a{}main{var o=new a;"+replace(statement, expr)+"print(2);}", nil)
			if f != (api.Fault{}) || r.Status != api.Fell || len(r.Prints) != 0 {
				t.Error(statement, expr, r, f)
			}
		}
	}
	fell(t, "main{if(nil){}}", 1, 0, "")
	fell(t, "main{while(nil){}}", 1, 0, "")
	fell(t, "main{var x=1;while(x){x=nil;}print(1);}", 1, 0, "")
}

func TestReckoning(t *testing.T) {
	for expr, want := range map[string]string{
		"1+2": "3", "1-2": "-1", "3*-4": "-12", "-(-5)": "5", "-0": "0", "7-7": "0", "2+3*4-5": "9", "(2+3)*(4-5)": "-5", "1-2-3": "-4",
		most + "+0": most, "1073741822+1": most, least: "-1073741824", least + "+" + most: "-1", least + "*1": "-1073741824",
		"-" + most: "-1073741823", "-(-" + most + ")": most, "32768*32767": "1073709056", "-32768*32768": "-1073741824", "32768*-32768": "-1073741824",
		"0-" + most: "-1073741823", least + "+0": "-1073741824", least + "-0": "-1073741824", most + "-" + most: "0", least + "-" + least: "0",
		"1<2": "1", "2<1": "0", "1<1": "0", "-1<0": "1", least + "<" + most: "1", most + "<" + least: "0",
		"!0": "1", "!1": "0", "!-1": "0", "!!7": "1", "!" + least: "0", "!(1<2)": "0",
		"1==1": "1", "1==2": "0", "0==0": "1", "nil==nil": "1", "nil==0": "0", "0==nil": "0", "gate==gate": "0", "(new a)==new a": "0",
		"nil==gate": "0", "1==new a": "0", "(new a)==nil": "0", "-1==1": "0", "(new a)==gate": "0", "gate==0": "0", "gate==1": "0", most + "==" + most: "1",
	} {
		shows(t, "class a{}main{print("+expr+");}", want)
	}
	shows(t, "class a{}main{var o=new a;var p=new a;var q=o;var g=gate;var h=g;print(o==o);print(o==q);print(o==p);print(g==h);print(g==o);}", "1 1 0 1 0")
}

// TestReckoningThatFalls: it falls at a mark of its own, behind all that is
// reckoned ahead of it.
func TestReckoningThatFalls(t *testing.T) {
	for _, expr := range []string{
		most + "+1", "1+" + most, most + "+" + most, least + "-1", "0-1-" + most + "-1", least + "+-1", "-" + least, "0-" + least, "65536*65536", "32768*32768",
		least + "*-1", least + "*" + least, most + "*" + most, most + "*2", least + "*2", "-32769*32768", most + "-(-1)",
		"1+nil", "nil+1", "nil-1", "1-nil", "nil*1", "0*nil", "-nil", "!nil", "nil<1", "1<nil", "nil<nil", "nil+nil", "-(1==2)+nil", "!(nil+1)",
	} {
		fell(t, "main{print(0);print("+expr+");print(1);}", 2, 0, "0")
		fell(t, "main{print(0);var x="+expr+";print(1);}", 2, 0, "0")
		fell(t, "main{print(0);"+expr+";print(1);}", 2, 0, "0")
	}
	for expr, made := range map[string]int{
		"1+gate": 1, "gate+1": 1, "-gate": 1, "!gate": 1, "gate<1": 1, "1<new a": 1, "(new a)<new a": 2, "nil+new a": 1, "nil*gate": 1,
		"(nil+1)*gate": 0, "nil<(new a).f(gate)": 2, most + "+1+gate": 0, "gate-gate-gate": 2, "-nil+gate": 0,
	} {
		steps := made + 1
		if expr == "nil<(new a).f(gate)" {
			steps++
		}
		fell(t, "class a{to f(x){return x;}}main{"+expr+";print(1);}", steps, made, "")
	}
	// It is a mark like others: others may be picked ahead of it.
	played(t, "main{fork{print(1);}print(1+nil);}", []int{1}, api.Fell, 3, 0, "1")
	played(t, "main{fork{print(1);}print(1+nil);}", []int{0}, api.Fell, 2, 0, "")
	played(t, "main{var g=gate;fork{-nil;}print(1);print(2);wait(g);}", nil, api.Fell, 5, 1, "1 2")
}

// TestWhatIsDoneByItself is not seen by others, and takes no step.
func TestWhatIsDoneByItself(t *testing.T) {
	done(t, "main{var i=0;var s=0;while(i<100){i=i+1;s=s+i;}print(s);}", 1, 0, "5050")
	// A fork that has no mark has ended as soon as it has begun.
	played(t, "main{fork{var x=1;x=x+1;}fork{}print(1);print(2);}", []int{1, 1, 1, 1}, api.Done, 4, 0, "1 2")
	// The script is not asked while only one is able.
	played(t, "main{print(0);fork{print(1);print(2);}print(3);print(4);}", []int{1, 0, 1}, api.Done, 6, 0, "0 1 3 2 4")
}
