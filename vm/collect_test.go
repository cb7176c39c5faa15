package vm

import (
	"slices"
	"strings"
	"testing"

	"gesso/api"
	"gesso/code"
	"gesso/model"
	"gesso/reach"
	"gesso/sweep"
)

// pair is a class whose things hold two others.
const pair = "class p{slot x;slot y;to put(v,w){x=v;y=w;}to x(){return x;}to y(){return y;}to me(){return self;}}"

func TestSwapOfTwoThings(t *testing.T) {
	text := pair + "main{var a=new p;var b=new p;a.put(a,1);b.put(a,2);swap(a,b);print(a.y());print(b.y());print(a.x()==a);print(b.x()==a);}"
	runs(t, text, nil, "done 21 2 2 1 1 1")
	shows(t, text, 8, "p#1(p#1,1) p#2(p#1,2)", "nil p#1 p#2")
	shows(t, text, 9, "p#1(p#2,1) p#2(p#2,2)", "nil p#1 p#2")
	// What it is that a local holds is told by what it prints alone: things
	// stay where they are, references turn.
	text = pair + "main{var a=new p;swap(a,new p);gate;}"
	shows(t, text, 2, "p#1(nil,nil) p#2(nil,nil)", "nil p#1 p#2")
	shows(t, text, 3, "p#1(nil,nil) p#2(nil,nil)", "nil p#2")
	looks(t, text, nil, []int{3}, minRoom, 4, "p#2(nil,nil) gate#3(0)", "")
}

func TestSwapOfAThingAndAGate(t *testing.T) {
	text := pair + "main{var a=new p;var g=gate;a.put(a,g);signal(g);swap(a,g);print(a);print(g);wait(a);print(g.x()==a);print(g.y()==g);}"
	runs(t, text, nil, "done 16 2 gate p 1 1")
	shows(t, text, 6, "p#1(p#1,gate#2) gate#2(1)", "gate#2 nil p#1")
	shows(t, text, 7, "p#1(gate#2,p#1) gate#2(1)", "gate#2 nil p#1")
	runs(t, pair+"main{var a=new p;var g=gate;swap(g,a);a.put(1,2);}", nil, "fell 4 2")
	runs(t, pair+"main{var a=new p;var g=gate;swap(g,a);signal(g);}", nil, "fell 4 2")
	runs(t, "main{var a=gate;var b=gate;signal(a);swap(a,b);wait(b);print(a==b);wait(a);}", nil, "stuck 6 2 0")
}

func TestSwapOfAThingAndItself(t *testing.T) {
	runs(t, pair+"main{var a=new p;a.put(a,3);swap(a,a);print(a.x()==a);print(a.y());}", nil, "done 11 1 1 3")
	runs(t, "main{var g=gate;var h=g;signal(g);swap(g,h);wait(h);print(g==h);}", nil, "done 5 1 1")
	text := pair + "main{swap((new p).me(),gate.me());}"
	runs(t, text, nil, "fell 4 2")
	shows(t, pair+"main{var a=new p;swap(a,a);print(1);}", 2, "p#1(nil,nil)", "1 nil p#1")
}

func TestSwapOfWhatIsNoThing(t *testing.T) {
	for _, both := range []string{"nil,a", "a,nil", "1,a", "a,1", "nil,nil", "0,0", "g,nil", "5,g"} {
		runs(t, pair+"main{var a=new p;var g=gate;swap("+both+");print(1);}", nil, "fell 3 2")
		shows(t, pair+"main{var a=new p;var g=gate;swap("+both+");print(1);}", 2, "p#1(nil,nil) gate#2(0)",
			heldBehind(both))
	}
}

// heldBehind answers what is held where a swap of both is next.
func heldBehind(both string) string {
	all := []string{"gate#2", "nil", "p#1"}
	for _, s := range strings.Split(both, ",") {
		if '0' <= s[0] && s[0] <= '9' {
			all = append(all, s)
		}
	}
	slices.Sort(all)
	return strings.Join(slices.Compact(all), " ")
}

// TestSwapsOfAll: selves, locals of callers and of others, slots, and what is
// being reckoned turn, in all processes.
func TestSwapsOfAll(t *testing.T) {
	a := "class a{slot n;to n(){return n;}to set(v){n=v;return self;}" +
		"to turn(o){swap(self,o);return self;}to both(o){swap(self,o);print(n);print(self==o);return n;}" +
		"to plus(v,w){return n*100+v*10+w;}}"
	do := "main{var p=(new a).set(1);var q=(new a).set(2);"
	runs(t, a+do+"print(p.both(q));print(p.n());print(q.n());}", nil, "done 19 2 2 0 2 2 1")
	// What was called is another one when the exprs are reckoned.
	runs(t, a+do+"print(p.plus(p.turn(q).n(),q.n()));}", nil, "done 15 2 221")
	runs(t, a+do+"print(p==p.turn(q));print(q==p.turn(q));print((p.turn(q)==q)+p.n());}", nil, "done 17 2 1 0 2")
	runs(t, a+do+"var r=p;fork{p.turn(q);print(p.n());}print(r.n());print(r.n());}", []int{0, 0, 0, 1, 1, 1, 1}, "done 18 2 1 2 2")
	// A process that waits has what it waits for turned.
	waits := a + "main{var g=gate;var h=gate;signal(h);fork{wait(g);print(7);}fork{wait(g);print(8);}swap(g,h);}"
	runs(t, waits, nil, "stuck 8 2 7")
	runs(t, waits, []int{1, 1, 1, 1, 1}, "stuck 8 2 8")
	runs(t, a+"main{var g=gate;fork{wait(g);}swap(g,new a);}", []int{0}, "fell 5 2")
	shows(t, a+"main{var g=gate;fork{wait(g);}swap(g,new a);gate;}", 4, "gate#1(0) a#2(nil)", "a#2 nil")
}

// TestCollectedAheadOfPicks: only then, if there is room; and not behind the
// last pick.
func TestCollectedAheadOfPicks(t *testing.T) {
	text := "class a{slot x;}main{var i=0;while(i<4){new a;i=i+1;}print(9);}"
	all := "a#1(nil) a#2(nil) a#3(nil) a#4(nil)"
	for _, c := range []struct {
		when   []int
		at     int
		things string
	}{
		{nil, 4, all}, {nil, 5, all}, {nil, 99, all}, {[]int{}, 5, all},
		{[]int{0}, 5, all}, {[]int{-1, 5, 6, 1500, -1 << 63, 1<<63 - 1}, 9, all},
		{[]int{1}, 1, "a#1(nil)"}, {[]int{1}, 2, "a#2(nil)"}, {[]int{1}, 5, "a#2(nil) a#3(nil) a#4(nil)"},
		{[]int{2}, 2, "a#1(nil) a#2(nil)"}, {[]int{2}, 3, "a#3(nil)"}, {[]int{2, 2}, 4, "a#3(nil) a#4(nil)"},
		{[]int{3, 1}, 4, "a#4(nil)"}, {[]int{4}, 4, all}, {[]int{4}, 5, ""}, {[]int{4}, 6, ""},
		{each(), 1, "a#1(nil)"}, {each(), 2, "a#2(nil)"}, {each(), 4, "a#4(nil)"}, {each(), 5, ""},
	} {
		h, _ := seen(t, text, nil, c.when, maxWords, c.at)
		p, _ := code.Make(text)
		if got := thingsTold(p, h); got != c.things {
			t.Errorf("collected at %v, behind %d: %s, want %s", c.when, c.at, got, c.things)
		}
	}
	runs(t, text, nil, "done 5 4 9")
	// Those that stay move together, and all are found where they are.
	kept := pair + "main{new p;var a=new p;new p;var b=new p;a.put(b,1);b.put(a,2);print(a.x()==b);print(b.x()==a);print(a.y()+b.y());}"
	runs(t, kept, nil, "done 21 4 1 1 3")
	looks(t, kept, nil, []int{10}, maxWords, 11, "p#2(p#4,1) p#4(p#2,2)", "nil p#2 p#4")
	h, _ := seen(t, kept, nil, []int{10}, maxWords, 11)
	if !slices.Equal(h.Words[10:], []int{4, 4, 8, 30, 3, 4, 6, 8, 20, 5}) || h.Words[1] != 7 {
		t.Error(h)
	}
}

// TestCollectedWhenThereIsNoRoom has a heap of just so many words that the last
// thing does not fit.
func TestCollectedWhenThereIsNoRoom(t *testing.T) {
	text := "class a{slot x;}main{var i=0;while(i<25){new a;i=i+1;}print(i);}"
	h, _ := seen(t, text, nil, nil, minRoom, 22)
	if len(h.Words) != 10+4*22 {
		t.Error(len(h.Words))
	}
	looks(t, text, nil, nil, minRoom, 23, "a#23(nil)", "23 nil")
	looks(t, text, nil, nil, minRoom+1, 23, "a#23(nil)", "23 nil")
	h, _ = seen(t, text, nil, nil, minRoom+2, 23)
	if len(h.Words) != 10+4*23 {
		t.Error(len(h.Words))
	}
	// It is not collected for what is no thing to be made.
	h, _ = seen(t, text, nil, nil, minRoom+10, 26)
	if len(h.Words) != 10+4*25 {
		t.Error(len(h.Words))
	}
	// Gates, and things with more slots, need their room.
	text = "class a{}class b{slot x;slot y;}main{var i=0;while(i<28){new a;i=i+1;}@}"
	for made, room := range map[string]int{"new a;": 3, "gate;": 4, "new b;": 5} {
		text := strings.ReplaceAll(text, "@", made)
		full, _ := seen(t, text, nil, nil, 14+3*28+room, 29)
		less, _ := seen(t, text, nil, nil, 14+3*28+room-1, 29)
		if len(full.Words) != 14+3*28+room || len(less.Words) != 14+room {
			t.Error(made, len(full.Words), len(less.Words))
		}
	}
}

// long is a class whose things are held in a row, by a local of main.
const long = "class n{slot next;to on(o){next=o;return self;}to next(){return next;}}"

// TestFull has runs of which more is held than there is room for.
func TestFull(t *testing.T) {
	// Each round makes a thing, a call, and a put: 22 things fit in 100 words.
	row := long + "main{var l=nil;var i=0;while(i<@){l=(new n).on(l);i=i+1;if(i==20){print(i);}}print(i);}"
	with := func(many int) string { return strings.ReplaceAll(row, "@", digits(many)) }
	ran(t, with(22), nil, minRoom, "done 68 22 20 22")
	ran(t, with(23), nil, minRoom, "full 68 22 20")
	ran(t, with(24), nil, minRoom, "full 68 22 20")
	ran(t, with(23), nil, 101, "full 68 22 20")
	ran(t, with(23), nil, 102, "done 71 23 20 23")
	ran(t, with(497), nil, maxWords, "done 1493 497 20 497")
	ran(t, with(498), nil, maxWords, "full 1493 497 20")
	ran(t, with(480), nil, 10+4*480, "done 1442 480 20 480")
	ran(t, with(480), nil, 10+4*480-1, "full 1439 479 20")
	// The heap is what could not be let go, and all is held that was.
	h, roots := seen(t, with(23), nil, nil, minRoom, 99)
	if len(h.Words) != 98 {
		t.Error(len(h.Words))
	}
	if all, _ := reach.Reach(h, roots); len(all) != 24 {
		t.Error(all)
	}
	// It is Full only when a thing is to be made.
	ran(t, strings.ReplaceAll(row, "@", "22")[:len(with(22))-1]+"print(l.next()==nil);fork{print(3);}}", nil, minRoom, "done 73 22 20 22 0 3")
	// A gate, or one slot more, is too much where a small one is not.
	front := "class e{}class t{slot x;}" + long + "main{var l=nil;var i=0;while(i<20){l=(new n).on(l);i=i+1;}"
	for made, want := range map[string]string{"print(new e);": "done 62 21 e", "print(new t);": "full 61 20", "print(gate);": "full 61 20"} {
		ran(t, front+made+"}", nil, 18+4*20+3, want)
	}
}

// TestRoomThatIsAsked has just as much room as no run can be Full with, where
// all that is made is held; and one word less.
func TestRoomThatIsAsked(t *testing.T) {
	for _, c := range []struct {
		classes, makes string
		words          int
	}{
		{"class h{slot a;}", "gate", 4}, {"class h{slot a;slot b;}", "new h", 5}, {"class h{slot a;}class e{}", "new e", 3},
		{"class h{slot a;slot b;slot c;}class w:h{slot d;slot e;}", "new w", 8}, {"class h{slot a;}class i:h{}", "new i", 4},
	} {
		many := strings.Count(c.classes, "class")
		text := c.classes
		// Things that hold one another through locals of calls.
		text += "class k{to f(n,o){if(n<2){return 1;}return 1+self.f(n-1," + c.makes + ");}}main{print((new k).f(30," + c.makes + "));}"
		room := 6 + 4*(many+1) + 3 + 30*c.words
		r, f := model.Run(text, nil)
		if f != (api.Fault{}) || r.Made != 31 || r.Status != api.Done {
			t.Fatal(ends(r), f)
		}
		ran(t, text, nil, room, ends(r))
		ran(t, text, nil, room+1, ends(r))
		less, f := Run(text, nil, each(), room-1)
		if f != (api.Fault{}) || less.Status != api.Full || less.Made != 30 || len(less.Prints) != 0 {
			t.Error(text, ends(less), f)
		}
	}
}

// TestHeld has what is held, whoever does, when it is collected at each pick.
func TestHeld(t *testing.T) {
	// By a process that waits, and by one that is being called.
	text := pair + "main{var g=gate;fork{var a=new p;wait(g);print(a);}print(1);print(2);signal(g);}"
	looks(t, text, []int{1, 0}, each(), minRoom, 5, "gate#1(0) p#2(nil,nil)", "gate#1 nil p#2")
	calls := pair + "class c{to f(o){print(1);return o.x();}to g(o){return self.f(o);}}main{print((new c).g(new p));}"
	looks(t, calls, nil, each(), minRoom, 5, "c#1() p#2(nil,nil)", "c#1 nil p#2")
	runs(t, calls, nil, "done 8 2 1 nil")
	// By what is being reckoned: what was called, exprs, sides.
	rec := pair + "main{(new p).put(new p,gate);}"
	looks(t, rec, nil, each(), minRoom, 3, "p#1(nil,nil) p#2(nil,nil) gate#3(0)", "gate#3 nil p#1 p#2")
	looks(t, pair+"main{(new p)==new p;}", nil, each(), minRoom, 1, "p#1(nil,nil)", "nil p#1")
	looks(t, pair+"main{swap(new p,gate);print(1);}", nil, each(), minRoom, 2, "p#1(nil,nil) gate#2(0)", "gate#2 nil p#1")
	looks(t, pair+"main{swap(new p,gate);print(1);gate;}", nil, each(), minRoom, 5, "gate#3(0)", "")
	looks(t, pair+"main{print(new p);print(1);}", nil, each(), minRoom, 1, "p#1(nil,nil)", "nil p#1")
	looks(t, pair+"main{print(new p);print(1);gate;}", nil, each(), minRoom, 4, "gate#2(0)", "")
}

// TestLetGo has what nobody holds any more.
func TestLetGo(t *testing.T) {
	// One that has ended, and a call that has.
	text := pair + "main{fork{var a=new p;a.put(gate,gate);}print(1);print(2);print(3);gate;}"
	looks(t, text, []int{1, 1, 1, 1, 1, 1, 1}, each(), minRoom, 99, "gate#4(0)", "")
	looks(t, text, []int{1, 1, 1}, each(), minRoom, 4, "p#1(nil,nil) gate#2(0) gate#3(0)", "1 gate#2 gate#3 nil p#1")
	text = pair + "class c{to f(o){var a=new p;print(o);}}main{(new c).f(gate);print(1);print(2);}"
	looks(t, text, nil, each(), minRoom, 4, "c#1() gate#2(0) p#3(nil,nil)", "c#1 gate#2 nil p#3")
	looks(t, text, nil, each(), minRoom, 5, "c#1() gate#2(0) p#3(nil,nil)", "1 nil")
	looks(t, text, nil, each(), minRoom, 6, "", "2 nil")
	// A local, and a slot, that has become something else.
	text = pair + "main{var a=new p;a=nil;print(1);a=new p;a.put(new p,1);a.put(1,1);print(2);print(3);}"
	looks(t, text, nil, each(), minRoom, 3, "p#2(nil,nil)", "nil p#2")
	looks(t, text, nil, each(), minRoom, 11, "p#2(1,1)", "3 nil p#2")
	// Those that hold one another alone.
	text = pair + "main{var a=new p;a.put(new p,a);a.x().put(a,a);a=nil;print(1);print(2);}"
	looks(t, text, nil, each(), minRoom, 10, "p#1(p#2,p#1) p#2(p#1,p#1)", "1 nil")
	looks(t, text, nil, each(), minRoom, 11, "", "2 nil")
}

// TestShown has what is shown ahead of the first pick, in the midst, at the end
// and behind it.
func TestShown(t *testing.T) {
	text := pair + "main{var i=7;var a=new p;a.put(i,-i);print(a);}"
	for _, at := range []int{-1 << 63, -7, -1, 0} {
		shows(t, text, at, "", "7 nil")
	}
	shows(t, text, 1, "p#1(nil,nil)", "-7 7 nil p#1")
	shows(t, text, 2, "p#1(nil,nil)", "-7 7 nil p#1")
	shows(t, text, 3, "p#1(7,nil)", "-7 7 nil p#1")
	shows(t, text, 4, "p#1(7,-7)", "7 nil p#1")
	for _, at := range []int{5, 6, 1499, 1500, 1501, 1<<63 - 1} {
		shows(t, text, at, "p#1(7,-7)", "")
	}
	// At the end of a run that is not Done there is what is held still.
	shows(t, pair+"main{var a=new p;a.y(1,2);}", 9, "p#1(nil,nil)", "1 2 nil p#1")
	shows(t, pair+"main{var a=new p;wait(gate);}", 9, "p#1(nil,nil) gate#2(0)", "gate#2 nil p#1")
	shows(t, pair+"main{var a=new p;signal(a);}", 9, "p#1(nil,nil)", "nil p#1")
	shows(t, pair+"main{var a=new p;a+3;}", 9, "p#1(nil,nil)", "3 nil p#1")
	shows(t, pair+"main{var a=new p;while(1){}}", 9, "p#1(nil,nil)", "nil p#1")
	shows(t, pair+"main{var a=new p;while(1){print(1);}}", 1600, "p#1(nil,nil)", "1 nil p#1")
	shows(t, pair+"main{var a=new p;if(a){}}", 9, "p#1(nil,nil)", "nil p#1")
}

// TestShownIsTheSame: what is reached is alike behind each pick, whatever the
// room is and whenever it is collected; collected once more, it is what a heap
// is that was collected there.
func TestShownIsTheSame(t *testing.T) {
	text := long + "main{var l=nil;var g=gate;var i=0;fork{var k=nil;while(1){k=(new n).on(k);wait(g);if(i<k.next()){}}}" +
		"while(i<12){l=(new n).on((new n).on(l));if(i==5){l=l.next().next();}i=i+1;swap(l,l.next());signal(g);}print(l);}"
	for _, script := range [][]int{nil, {1}, {0, 1, 0, 1, 1, 0}} {
		for at := range 150 {
			h, roots := seen(t, text, script, nil, maxWords, at)
			for _, when := range rows() {
				k, others := seen(t, text, script, when, 200, at)
				if is, f := reach.Alike(h, roots, k, others); !is || f != (api.Fault{}) {
					t.Fatal(script, at, h, roots, k, others, f)
				}
			}
			swept, _, _ := sweep.Collect(h, roots)
			k, _ := seen(t, text, script, []int{at}, maxWords, at)
			if !slices.Equal(h.Words, k.Words) || len(swept.Words) > len(k.Words) {
				t.Fatal(script, at, h, k)
			}
		}
	}
}
