package model

import (
	"math"
	"slices"
	"strconv"
	"strings"
	"testing"
	"unsafe"

	"gesso/api"
	"gesso/check"
)

// digits answers n in decimals.
func digits(n int) string { return strconv.Itoa(n) }

// TestManyCalls has just as many calls in one another as there may be, and one
// more.
func TestManyCalls(t *testing.T) {
	deep := "class a{slot x;to f(n){if(n<2){return 1;}return 1+self.f(n-1);}to e(n){if(1<n){self.e(n-1);}}" +
		"to g(n){fork{var h=self;print(h.f(" + digits(maxCalls) + "));}if(1<n){self.g(n-1);}}to no(){return 0;}}main{var o=new a;"
	done(t, deep+"print(o.f("+digits(maxCalls)+"));}", maxCalls+2, 1, digits(maxCalls))
	fell(t, deep+"print(o.f("+digits(maxCalls+1)+"));}", maxCalls+2, 1, "")
	done(t, deep+"o.e("+digits(maxCalls)+");print(1);}", maxCalls+2, 1, "1")
	fell(t, deep+"o.e("+digits(maxCalls+1)+");print(1);}", maxCalls+2, 1, "")
	// Those that have ended are not counted, by return and at the block's end.
	done(t, deep+"var i=0;while(i<50){i=i+o.f(1);o.e(1);}print(i);o.f("+digits(maxCalls)+");}", maxCalls+102, 1, "50")
	fell(t, deep+"var i=0;while(i<50){i=i+o.f(1);o.e(1);}print(i);o.f("+digits(maxCalls+1)+");}", maxCalls+103, 1, "50")
	// What is called for the exprs of a call has ended ahead of it.
	shows(t, deep+"print(o.f("+digits(maxCalls-1)+"+o.f(1)));}", digits(maxCalls))
	fell(t, deep+"print(o.f(1+o.f("+digits(maxCalls)+")));}", 2*maxCalls+2, 1, "")
	// Each that has a call too many falls, whoever is called.
	fell(t, "class a{to f(n){if(n<2){(new a).g();return 1;}return 1+self.f(n-1);}to g(){}}main{(new a).f("+digits(maxCalls)+");}", maxCalls+3, 2, "")
	done(t, "class a{to f(n){if(n<2){(new a).g();return 1;}return 1+self.f(n-1);}to g(){}}main{(new a).f("+digits(maxCalls-1)+");}", maxCalls+2, 2, "")
}

// TestCallsOfForks: a fork begins with none, in however many calls it stands,
// and those that it makes are not those of the process that has made it.
func TestCallsOfForks(t *testing.T) {
	class := "class a{to f(n){if(n<2){return 1;}return 1+self.f(n-1);}" +
		"to g(n){if(n<2){fork{print(self.f(@));}return 1;}return 1+self.g(n-1);}}main{"
	for forked, ends := range map[int]int{1: api.Done, maxCalls: api.Done, maxCalls + 1: api.Fell} {
		r, f := Run(replace(class, digits(forked))+"print((new a).g("+digits(maxCalls)+"));}", nil)
		if f != (api.Fault{}) || r.Status != ends {
			t.Error(forked, r, f)
		}
	}
	class = "class a{to f(n){if(n<2){return 1;}return 1+self.f(n-1);}}main{var o=new a;fork{o.f(" + digits(maxCalls) + ");}o.f(" + digits(maxCalls) + ");}"
	for _, script := range [][]int{nil, {1}, {1, 0, 1, 0, 1, 0}, slices.Repeat([]int{0, 1}, 50), slices.Repeat([]int{1}, 99)} {
		played(t, class, script, api.Done, 2*maxCalls+2, 1, "")
	}
}

func TestManyProcesses(t *testing.T) {
	done(t, "main{"+times("fork{}", maxProcs-1)+"print(1);}", maxProcs, 0, "1")
	fell(t, "main{"+times("fork{}", maxProcs)+"print(1);}", maxProcs, 0, "")
	done(t, "main{"+times("fork{", maxProcs-1)+"print(1);"+times("}", maxProcs-1)+"print(2);}", maxProcs+1, 0, "2 1")
	fell(t, "main{"+times("fork{", maxProcs)+"print(1);"+times("}", maxProcs)+"print(2);}", maxProcs+1, 0, "2")
	fell(t, "main{while(1){fork{}}}", maxProcs, 0, "")
	// Those that have ended are counted, too.
	fell(t, "main{var g=gate;while(1){fork{print(1);signal(g);}wait(g);}}", 4*(maxProcs-1)+2, 1, times("1 ", maxProcs-1))
	// They have the next numbers, and are picked by them.
	text := "main{fork{print(1);}fork{print(2);}fork{fork{print(4);}print(3);}print(0);}"
	played(t, text, []int{0, 0, 3, 4, 2, 1, 0}, api.Done, 9, 0, "4 2 1 0 3")
}

// TestManyRounds has just as many conditions of while as may begin since the
// last mark, and one more.
func TestManyRounds(t *testing.T) {
	loop := "var i=0;while(i<@){i=i+1;}"
	// The condition that does not hold has begun, too.
	done(t, "main{"+replace(loop, digits(maxRounds-1))+"print(i);}", 1, 0, digits(maxRounds-1))
	played(t, "main{"+replace(loop, digits(maxRounds))+"print(i);}", nil, api.Endless, 1, 0, "")
	played(t, "main{while(1){}}", nil, api.Endless, 1, 0, "")
	done(t, "main{"+times("while(0){}", 150)+"var i=0;while(i<149){i=i+1;}print(i);}", 1, 0, "149")
	played(t, "main{"+times("while(0){}", 150)+"var i=0;while(i<150){i=i+1;}print(i);}", nil, api.Endless, 1, 0, "")
	// All whiles are counted, those in one another, too.
	nested := "main{var i=0;while(i<@){var j=0;while(j<9){j=j+1;}i=i+1;}print(i);}"
	done(t, replace(nested, "27"), 1, 0, "27")
	played(t, replace(nested, "28"), nil, api.Endless, 1, 0, "")
	// Each mark begins anew, whatever it is.
	for _, mark := range []string{"print(1);", "gate;", "fork{}", "new a;", "signal(g);", "signal(g);wait(g);", "swap(g,g);", "o.f();"} {
		full := times("i=0;while(i<299){i=i+1;}"+mark, 3)
		r, f := Run("class a{to f(){}}main{var g=gate;var o=new a;var i=0;"+full+"}", nil)
		if f != (api.Fault{}) || r.Status != api.Done {
			t.Error(mark, r, f)
		}
	}
	slots := "class a{slot x;to f(){var i=0;" + times("i=0;while(i<299){i=i+1;}@", 3) + "}}main{(new a).f();}"
	done(t, replace(slots, "x;"), 5, 1, "")
	done(t, replace(slots, "x=1;"), 5, 1, "")
	played(t, replace(slots, "self;"), nil, api.Endless, 3, 1, "")
	done(t, "main{var i=0;while(i<400){print(i);i=i+1;}}", 400, 0, numbers(400))
	// A condition with a mark in it is begun ahead of the mark.
	done(t, "class a{to f(){return 0;}}main{var o=new a;"+replace(loop, "298")+"while(o.f()){}"+"print(1);}", 3, 1, "1")
	done(t, "class a{to f(){return 0;}}main{var o=new a;"+replace(loop, "298")+"while(o.f()){}i=0;while(i<299){i=i+1;}print(1);}", 3, 1, "1")
	played(t, "class a{to f(){return 0;}}main{var o=new a;"+replace(loop, "299")+"while(o.f()){}"+"print(1);}", nil, api.Endless, 2, 1, "")
	played(t, "main{"+replace(loop, "299")+"while(nil+1){}}", nil, api.Endless, 1, 0, "")
	played(t, "main{"+replace(loop, "298")+"while(nil+1){}}", nil, api.Fell, 1, 0, "")
}

// numbers answers the numbers below n, parted by blanks.
func numbers(n int) string {
	var all []string
	for i := range n {
		all = append(all, digits(i))
	}
	return strings.Join(all, " ")
}

// TestRoundsOfCallsAndForks: a return is no mark; a fork begins with none.
func TestRoundsOfCallsAndForks(t *testing.T) {
	class := "class a{to f(n){var i=0;while(i<n){i=i+1;}@}}main{var o=new a;var j=0;while(j<100){j=j+1;}o.f(149);j=0;while(j<&){j=j+1;}print(j);}"
	for _, end := range []string{"", "return 1;"} {
		with := func(many string) string { return strings.ReplaceAll(replace(class, end), "&", many) }
		done(t, with("149"), 3, 1, "149")
		played(t, with("150"), nil, api.Endless, 3, 1, "")
	}
	loop := "var i=0;while(i<299){i=i+1;}"
	done(t, "main{"+loop+"fork{var j=0;while(j<299){j=j+1;}print(j);}print(i);}", 3, 0, "299 299")
	played(t, "main{fork{while(1){}}print(1);print(2);}", []int{0, 1}, api.Endless, 3, 0, "1")
	played(t, "main{fork{while(1){}}print(1);print(2);}", []int{0, 0}, api.Endless, 4, 0, "1 2")
	played(t, "main{fork{while(1){}}print(1);print(2);}", []int{1}, api.Endless, 2, 0, "")
	// Marks of others do not begin anew.
	played(t, "main{fork{print(1);print(2);}while(1){}}", []int{1, 1}, api.Endless, 4, 0, "1 2")
}

// TestOut has runs that end with just as many steps as there may be.
func TestOut(t *testing.T) {
	loop := "main{var i=0;while(i<@){print(i);i=i+1;}&}"
	with := func(many int, then string) string { return strings.ReplaceAll(replace(loop, digits(many)), "&", then) }
	done(t, with(maxMarks-1, ""), maxMarks-1, 0, numbers(maxMarks-1))
	done(t, with(maxMarks, ""), maxMarks, 0, numbers(maxMarks))
	played(t, with(maxMarks+1, ""), nil, api.Out, maxMarks, 0, numbers(maxMarks))
	played(t, with(maxMarks-1, "gate;print(0);"), nil, api.Out, maxMarks, 1, numbers(maxMarks-1))
	played(t, with(maxMarks-1, "nil.f();"), nil, api.Fell, maxMarks, 0, numbers(maxMarks-1))
	played(t, with(maxMarks, "nil.f();"), nil, api.Out, maxMarks, 0, numbers(maxMarks))
	played(t, with(maxMarks-1, "1+nil;"), nil, api.Fell, maxMarks, 0, numbers(maxMarks-1))
	played(t, with(maxMarks, "1+nil;"), nil, api.Out, maxMarks, 0, numbers(maxMarks))
	played(t, with(maxMarks-1, "while(1){}"), nil, api.Endless, maxMarks, 0, numbers(maxMarks-1))
	played(t, with(maxMarks, "while(1){}"), nil, api.Out, maxMarks, 0, numbers(maxMarks))
	played(t, with(maxMarks-1, "wait(gate);"), nil, api.Stuck, maxMarks, 1, numbers(maxMarks-1))
	played(t, with(maxMarks-2, "gate;wait(gate);"), nil, api.Stuck, maxMarks, 2, numbers(maxMarks-2))
	played(t, with(maxMarks-1, "signal(gate);"), nil, api.Out, maxMarks, 1, numbers(maxMarks-1))
	// Others that are able, or stand at a wait, are not Done.
	played(t, "main{var g=gate;fork{wait(g);}var i=0;while(i<1498){print(i);i=i+1;}}", nil, api.Stuck, maxMarks, 1, numbers(1498))
	played(t, "main{fork{print(7);}var i=0;while(i<1499){print(i);i=i+1;}}", nil, api.Out, maxMarks, 0, numbers(1499))
}

func TestHowRunsEnd(t *testing.T) {
	played(t, "class a{}main{print(1);new a;print(2);gate;}", nil, api.Done, 4, 2, "1 2")
	played(t, "class a{}main{print(1);new a;print(2);wait(gate);}", nil, api.Stuck, 4, 2, "1 2")
	played(t, "class a{}main{print(1);new a;print(2);signal(new a);}", nil, api.Fell, 5, 2, "1 2")
	played(t, "class a{}main{print(1);new a;print(2);gate;while(1){}}", nil, api.Endless, 5, 2, "1 2")
	played(t, "class a{}main{print(1);new a;print(2);while(1){gate;}}", nil, api.Out, maxMarks, maxMarks-2, "1 2")
	// One process that has ended, or stands at a wait, leaves others going on.
	played(t, "main{var g=gate;fork{print(1);print(2);}wait(g);}", nil, api.Stuck, 4, 1, "1 2")
	played(t, "main{var g=gate;fork{wait(g);}print(1);}", nil, api.Stuck, 3, 1, "1")
	played(t, "main{fork{print(1);}}", nil, api.Done, 2, 0, "1")
	played(t, "main{var g=gate;fork{wait(g);}fork{wait(g);print(3);}fork{1+nil;}wait(g);}", nil, api.Fell, 5, 1, "")
}

// TestScripts has three processes that print, and scripts of all kinds.
func TestScripts(t *testing.T) {
	text := "main{fork{print(1);print(4);}fork{print(2);print(5);}print(3);print(6);}"
	for _, c := range []struct {
		script []int
		prints string
	}{
		{nil, "3 6 1 4 2 5"}, {[]int{}, "3 6 1 4 2 5"}, {[]int{0, 0, 0, 0}, "3 6 1 4 2 5"},
		// At the second fork two are able, then three.
		{[]int{0, 2, 1, 0}, "2 1 3 6 4 5"}, {[]int{1, 0}, "1 3 6 4 2 5"}, {[]int{1, 1}, "1 4 3 6 2 5"},
		{[]int{0, 2, 2, 1, 1}, "2 5 1 4 3 6"}, {[]int{0, 1, 2, 0, 0, 0, 1, 1}, "1 2 3 6 4 5"},
		// Numbers below 0 and above how many they are.
		{[]int{2, 5, 4, 3}, "2 1 3 6 4 5"}, {[]int{-2, -1, -2, -3}, "2 1 3 6 4 5"}, {[]int{-1, -1, 2}, "1 4 3 6 2 5"},
		{[]int{math.MinInt, math.MinInt + 1}, "2 3 6 1 4 5"}, {[]int{0, math.MaxInt, math.MaxInt}, "1 4 3 6 2 5"},
		{[]int{0, 2, 2, 1, 1, 9, 9, 9, 9, 9}, "2 5 1 4 3 6"},
	} {
		played(t, text, c.script, api.Done, 8, 0, c.prints)
	}
	// Those that are not able, or have ended, are not counted.
	played(t, "main{var g=gate;fork{wait(g);}fork{}fork{print(1);}print(0);signal(g);}", []int{1}, api.Done, 8, 1, "1 0")
	played(t, "main{var g=gate;fork{wait(g);}fork{}fork{print(1);}print(0);signal(g);}", []int{2}, api.Done, 8, 1, "0 1")
}

func TestFaultsOfCheckFirst(t *testing.T) {
	for _, text := range []string{"", "main", "main{", "x", "main{x;}", "main{return 1;}", "main{self;}", "main{new a;}", "class a{}class a{}main{}",
		"main{1+nil;x;}", "main{?}", "main{07;}", "main{while(1){}x=1;}", "main{" + times("(", 20), times(" ", 4001), "main{" + times("1;", 400) + "}",
		"class a{to f(x,x){}}main{print(1);}", "class a:b{}main{}", "main{var x=1;var x=2;}", "\x00", "é"} {
		_, want := check.Check(text)
		r, f := Run(text, []int{1, 2})
		if want.Code == api.OK || f != want || r.Status != 0 || r.Steps != 0 || r.Made != 0 || len(r.Prints) != 0 {
			t.Errorf("%q: %v %v, want %v", short(text), r, f, want)
		}
	}
}

// TestNothingIsTouched: the script stays as it is, what lies behind it is not
// read, and each answer is its own.
func TestNothingIsTouched(t *testing.T) {
	text := "class abc{}main{fork{print(1);print(new abc);}print(2);print(new abc);print(3);}"
	all := []int{1, 1, 0, 1, 1, 1, 1}
	script := all[:2]
	r, _ := Run(text, script)
	if !slices.Equal(all, []int{1, 1, 0, 1, 1, 1, 1}) {
		t.Error(all)
	}
	played(t, text, []int{1, 1}, r.Status, r.Steps, r.Made, strings.Join(r.Prints, " "))
	again, _ := Run(text, script)
	first := slices.Clone(again.Prints)
	for i := range r.Prints[:cap(r.Prints)] {
		r.Prints[:cap(r.Prints)][i] = "x"
	}
	if !slices.Equal(again.Prints, first) {
		t.Error(again.Prints)
	}
	from := uintptr(unsafe.Pointer(unsafe.StringData(text)))
	for _, s := range again.Prints {
		if at := uintptr(unsafe.Pointer(unsafe.StringData(s))); from <= at && at < from+uintptr(len(text)) {
			t.Errorf("%q stands in the text", s)
		}
	}
}

// TestHardRuns have as much to do as there can be, and end.
func TestHardRuns(t *testing.T) {
	for _, body := range []string{times("if(1){}", 185), "x=" + times("-", 60) + "x;", "x=x" + times("+x-x", 20) + ";"} {
		r, f := Run("main{var x=1;while(1){var i=0;while(i<298){"+body+"i=i+1;}print(1);}}", nil)
		if f != (api.Fault{}) || r.Status != api.Out || r.Steps != maxMarks {
			t.Error(short(body), r.Status, r.Steps, f)
		}
	}
	shows(t, "main{var x=7;print("+times("-", 592)+"x);}", "7")
	shows(t, "class a{to f(){return self;}}main{print((new a)"+times(".f()", 500)+");}", "a")
	shows(t, "main{"+times("if(1){", 18)+"print(1);"+times("}", 18)+"}", "1")
}
