package sorts

import (
	"slices"
	"strconv"
	"strings"
	"testing"

	"gesso/api"
)

// refused asks that all calls answer that fault, and nothing else.
func refused(t *testing.T, text string, code api.Errno, at int) {
	t.Helper()
	want := api.Fault{Code: code, At: at}
	if all, f := Tell(text); f != want || len(all) != 0 {
		t.Errorf("%q: %v %v, want %v", short(text), all, f, want)
	}
	if is, f := Safe(text); f != want || is {
		t.Errorf("%q: %v %v, want %v", short(text), is, f, want)
	}
	if all, f := Calls(text); f != want || len(all) != 0 {
		t.Errorf("%q: %v %v, want %v", short(text), all, f, want)
	}
}

// TestFaults are those of check.Check.
func TestFaults(t *testing.T) {
	refused(t, "", api.ErrSyntax, 0)
	refused(t, "main{print(1;}", api.ErrSyntax, 12)
	refused(t, "main{1>2;}", api.ErrRune, 6)
	refused(t, "main{07;}", api.ErrForm, 5)
	refused(t, strings.Repeat(" ", 4001), api.ErrSize, 0)
	refused(t, "main{"+strings.Repeat("(", 30)+"1;}", api.ErrDeep, 24)
	refused(t, "main{x;}", api.ErrName, 3)
	refused(t, "main{nil.f(x);wait(1);}", api.ErrName, 5)
	refused(t, "main{new a;}", api.ErrName, 3)
	refused(t, "class b:a{}class a{}main{}", api.ErrName, 2)
	refused(t, "class a{}class a{}main{}", api.ErrTwice, 2)
	refused(t, "class a { to f ( x ) { var x = 1 ; } } main { }", api.ErrTwice, 5)
	refused(t, "main{self;}", api.ErrKind, 3)
	refused(t, "main{return 1;}", api.ErrKind, 2)
	refused(t, "class a{to f(){fork{return 1;}}}main{}", api.ErrKind, 6)
}

// name answers the i-th of names that are all different, and as short as can be.
func name(i int) string {
	const letters = "abcdefghijklmnopqrstuvwxyzABCDEFGHIJKLMNOPQRSTUVWXYZ_"
	if i < len(letters) {
		return letters[i : i+1]
	}
	return letters[i/len(letters)-1:][:1] + letters[i%len(letters):][:1]
}

// many answers texts one behind the other, of the numbers from 0 on.
func many(count int, text func(i int) string) string {
	s := ""
	for i := range count {
		s += text(i)
	}
	return s
}

// TestMostClasses has as many as a text can have: each is a sort of its own, and
// one set has all of them.
func TestMostClasses(t *testing.T) {
	const count = 400
	classes := many(count, func(i int) string { return "class " + name(i) + "{}" })
	for _, i := range []int{0, 60, 61, 62, 124, 125, 126, 253, 380, 381, 382, 399} {
		tells(t, classes+"main{print(new "+name(i)+");}", name(i))
	}
	const some = 150
	classes = many(some, func(i int) string { return "class " + name(i) + "{}" })
	all := make([]string, some)
	for i := range all {
		all[i] = name(i)
	}
	sets := many(some, func(i int) string { return "x=new " + name(some-1-i) + ";" })
	tells(t, classes+"main{var x=nil;"+sets+"print(x);}", "nil "+strings.Join(all, " "))
	// All are swapped for each other, one by one.
	swaps := many(74, func(i int) string { return "swap(new " + name(i) + ",new " + name(i+1) + ");" })
	classes = many(75, func(i int) string { return "class " + name(i) + "{}" })
	tells(t, classes+"main{print(new "+name(74)+");"+swaps+"}", strings.Join(all[:75], " "))
	tells(t, classes+"main{print(gate);"+swaps+"swap(new "+name(37)+",gate);}", "gate "+strings.Join(all[:75], " "))
}

// TestMostSlots has classes that stand on one with as many slots as can be.
func TestMostSlots(t *testing.T) {
	slots := many(59, func(i int) string { return "slot " + name(i) + ";" })
	method := "to f(){" + name(58) + "=1;" + name(0) + "=gate;print(" + name(58) + ");print(" + name(57) + ");}"
	classes := many(200, func(i int) string { return "class " + name(i+1) + ":a{}" })
	tells(t, "class a{"+slots+method+"}"+classes+"main{var x=new b;x=new "+name(200)+";x.f();}", "number nil", "nil")
	// Each has its own: what is put into one's is not in the others'.
	tells(t, "class a{"+slots+"to f(){"+name(58)+"=1;}to g(){print("+name(58)+");}}class b:a{}class c:a{}main{(new b).f();(new c).g();}", "nil")
}

// TestLongWays has what goes from one to the next against the way in which nodes
// are gone along.
func TestLongWays(t *testing.T) {
	vars := many(30, func(i int) string { return "var " + name(i) + "=nil;" })
	sets := many(29, func(i int) string { return name(i) + "=" + name(i+1) + ";" })
	tells(t, "main{"+vars+"while(1){"+sets+"}"+name(29)+"=gate;print("+name(0)+");}", "nil gate")
	methods := many(60, func(i int) string {
		return "to f" + strconv.Itoa(i) + "(x){return self.f" + strconv.Itoa(i+1) + "(x);}"
	})
	tells(t, "class a{"+methods+"to f60(x){print(x);return x;}}main{print((new a).f0(1));}", "number", "number nil")
	// Each class is come to by a call of the one ahead of it.
	classes := many(60, func(i int) string { return "class " + name(i) + "{to n(){return new " + name(i+1) + ";}}" })
	all := make([]string, 61)
	for i := range all {
		all[i] = name(i)
	}
	text := classes + "class " + name(60) + "{to n(){return self;}}main{var x=new a;while(1){x=x.n();}print(x);}"
	tells(t, text, "nil "+strings.Join(all, " "))
	agreed(t, text)
}

// TestMostNodes has as many nodes as may be, nested in one another.
func TestMostNodes(t *testing.T) {
	for _, text := range []string{
		"main{print(" + strings.Repeat("-", 596) + "1);}",
		"class a{to f(){return self;}}main{print(new a" + strings.Repeat(".f()", 591) + ");}",
		"main{" + strings.Repeat("print(1);", 299) + "}",
	} {
		all := tell(t, text)
		if len(all) != 600 {
			t.Errorf("%q: %d nodes", short(text), len(all))
		}
		agreed(t, text)
	}
	refused(t, "main{print("+strings.Repeat("-", 597)+"1);}", api.ErrSize, 0)
}

// TestNoMemoryIsShared asks that no two lists lie in the same memory, in one answer
// or in two.
func TestNoMemoryIsShared(t *testing.T) {
	text := "class a{slot x;to f(y){x=y;return x;}}main{var p=new a;p=nil;p=gate;print(p.f(p));print(p.f(1));}"
	want, _ := Tell(text)
	one, _ := Tell(text)
	other, _ := Tell(text)
	whole := one[:cap(one)]
	for i := range whole {
		for k := range whole[i][:cap(whole[i])] {
			whole[i][:cap(whole[i])][k] = 1000 + i
		}
	}
	for i := range one {
		for _, sort := range one[i] {
			if sort != 1000+i {
				t.Errorf("list %d is another one's, too", i)
			}
		}
	}
	again, _ := Tell(text)
	if !slices.EqualFunc(other, want, slices.Equal) || !slices.EqualFunc(again, want, slices.Equal) {
		t.Error(other, again, want)
	}
}
