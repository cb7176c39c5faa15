package trim

import (
	"strconv"
	"strings"
	"testing"

	"gesso/api"
	"gesso/check"
	"gesso/syntax"
)

// refused asks that Text answers that fault, and nothing else.
func refused(t *testing.T, text string, code api.Errno, at int) {
	t.Helper()
	if got, f := Text(text); got != "" || f != (api.Fault{Code: code, At: at}) {
		t.Errorf("%q: %q %v, want %v at %d", text[:min(len(text), 99)], got, f, code, at)
	}
}

// TestFaults are those of check.Check, also in methods that would go.
func TestFaults(t *testing.T) {
	refused(t, "", api.ErrSyntax, 0)
	refused(t, "main{print(1;}", api.ErrSyntax, 12)
	refused(t, "main{1>2;}", api.ErrRune, 6)
	refused(t, "main{07;}", api.ErrForm, 5)
	refused(t, strings.Repeat(" ", 4001), api.ErrSize, 0)
	refused(t, "main{"+strings.Repeat("(", 30)+"1;}", api.ErrDeep, 24)
	refused(t, "main{print("+strings.Repeat("-", 597)+"1);}", api.ErrSize, 0)
	refused(t, "class a{to f(){x=1;}}main{}", api.ErrName, 4)
	refused(t, "class a{to f(){new b;}}main{}", api.ErrName, 5)
	refused(t, "class a{to f(){}to f(){}}main{}", api.ErrTwice, 4)
	refused(t, "class a{to f(x,x){}}main{}", api.ErrTwice, 4)
	refused(t, "class a { to f ( x ) { var x = 1 ; } } main { }", api.ErrTwice, 5)
	refused(t, "class a{to f(){fork{return 1;}}}main{}", api.ErrKind, 6)
	refused(t, "main{self.f();}", api.ErrKind, 4)
	refused(t, "class b:a{}class a{}main{}", api.ErrName, 2)
}

// name answers the i-th of names that are all different, and as short as can be.
func name(i int) string {
	const letters = "abcdefghijklmnopqrstuvwxyzABCDEFGHIJKLMNOPQRSTUVWXYZ_"
	if i < len(letters) {
		return letters[i : i+1]
	}
	return letters[i/len(letters)-1:][:1] + letters[i%len(letters):][:1]
}

// many answers texts one behind the other, of the numbers from 0 on.
func many(count int, text func(i int) string) string {
	s := ""
	for i := range count {
		s += text(i)
	}
	return s
}

// printed answers the print of a program that stays as it is.
func printed(t *testing.T, text string) string {
	t.Helper()
	n, f := check.Check(text)
	if f != (api.Fault{}) {
		t.Fatalf("%q: %v", text, f)
	}
	want, f := syntax.Print(n)
	if f != (api.Fault{}) {
		t.Fatalf("%q: %v", text, f)
	}
	return want
}

// answers asks that text becomes what is printed of the other one, and answers
// how often methods go.
func answers(t *testing.T, text, want string) int {
	t.Helper()
	got, rounds, is := agreed(t, text)
	if want = printed(t, want); !is || got != want {
		t.Errorf("%q:\n%q, want\n%q", text, got, want)
	}
	return rounds
}

// isLong asks that the print of a program is too long to be read.
func isLong(t *testing.T, text string) {
	t.Helper()
	if long := len(printed(t, text)); long <= 4000 {
		t.Errorf("%q: %d bytes", text, long)
	}
}

// TestLongPrints has such as are too long to be read: of the text itself, and of
// what is left of it.
func TestLongPrints(t *testing.T) {
	prints := strings.Repeat("print(12);", 285)
	want := "class a{to f(){}}class b{}main{" + prints + "(new a).f();}"
	isLong(t, want)
	answers(t, "class a{to f(){}to g(){}}class b{}main{"+prints+"(new a).f();}", want)
	// It is looked at more than once.
	text := "class a{to f(){}to g(){swap(new a,new b);}}class b{to f(){}}main{" + prints + "(new a).f();}"
	if rounds := answers(t, text, want); rounds != 2 {
		t.Errorf("methods go %d times", rounds)
	}
	// What is left is short.
	text = "class a{to f(){}to g(){" + prints + "}}main{(new a).f();}"
	isLong(t, text)
	becomes(t, text, "class a { to f ( ) { } } main { new a . f ( ) ; }")
}

// TestPrintsOfMostBytes has one that is as long as a text may be, and one that is
// longer by a byte: that one is answered, too, but is no text any more.
func TestPrintsOfMostBytes(t *testing.T) {
	for _, more := range []int{0, 1} {
		front := "class a { } main { " + strings.Repeat("print ( 1 ) ; ", 250)
		long := strings.Repeat("x", 4000+more-len(front+"var  = 1 ; }\n"))
		text := "class a{to f(){}}main{" + strings.Repeat("print(1);", 250) + "var " + long + "=1;}"
		got, _, is := agreed(t, text)
		if !is || got != front+"var "+long+" = 1 ; }\n" || len(got) != 4000+more {
			t.Errorf("%d bytes: %q", len(got), got)
		}
		if _, f := Text(got); f != (api.Fault{Code: api.Errno(more)}) {
			t.Error(more, f)
		}
	}
}

// TestManyLooks has as many as can be: each lets one method go, which lets the
// next one go.
func TestManyLooks(t *testing.T) {
	const count = 96
	classes := many(count, func(i int) string { return "class " + name(i) + "{to m(){swap(new zz,new " + name(i+1) + ");}}" })
	text := "class zz{to m(){}to u(){swap(new zz,new a);}}" + classes + "class " + name(count) + "{}main{(new zz).m();}"
	left := many(count+1, func(i int) string { return "class " + name(i) + "{}" })
	if rounds := answers(t, text, "class zz{to m(){}}"+left+"main{(new zz).m();}"); rounds != count+1 {
		t.Errorf("methods go %d times", rounds)
	}
}

// TestManyMethods has a row and a ring of them.
func TestManyMethods(t *testing.T) {
	const count = 110
	method := func(i int) string { return "to f" + strconv.Itoa(i) + "(){self.f" + strconv.Itoa((i+1)%count) + "();}" }
	ring := "class a{" + many(count, method) + "}"
	answers(t, ring+"main{(new a).f50();}", ring+"main{(new a).f50();}")
	answers(t, ring+"main{(new a).f110();}", "class a{}main{(new a).f110();}")
	row, front := many(count-1, method), many(100, method)
	answers(t, "class a{"+row+"}main{(new a).f100();}", "class a{"+row[len(front):]+"}main{(new a).f100();}")
	// As many as there can be nodes, of which none is called.
	all := many(298, func(i int) string { return "to n" + strconv.Itoa(i) + "(){}" })
	becomes(t, "class a{"+all+"}main{}", "class a { } main { }")
}

// TestManyClasses has methods of one name, in classes that stand on each other,
// and in such as do not.
func TestManyClasses(t *testing.T) {
	const count = 110
	row := func(body string) string {
		return many(count, func(i int) string { return "class " + name(i+1) + ":" + name(i) + "{" + body + "}" })
	}
	last := "main{(new " + name(count) + ").f();}"
	answers(t, "class a{to f(){}}"+row("to f(){}")+last, "class a{}"+strings.TrimSuffix(row(""), "}")+"to f(){}}"+last)
	answers(t, "class a{to g(){}to f(){}}"+row("to f(x){}")+last, "class a{to f(){}}"+row("")+last)
	// One call comes to every third one.
	each := func(body func(i int) string) string {
		return many(75, func(i int) string { return "class " + name(i) + "{" + body(i) + "}" })
	}
	main := "main{var x=nil;" + many(25, func(i int) string { return "x=new " + name(3*i) + ";" }) + "x.f();}"
	answers(t, each(func(int) string { return "to f(){}to g(){}" })+main, each(func(i int) string {
		if i%3 == 0 {
			return "to f(){}"
		}
		return ""
	})+main)
}

// TestAnswersHangOnTheTextAlone: once more, and with others between, the same is
// answered.
func TestAnswersHangOnTheTextAlone(t *testing.T) {
	text := "class a{to f(){}to g(){swap(new a,new b);}}class b{to f(){}}main{(new a).f();}"
	want, _ := Text(text)
	for _, other := range []string{"", "main{}", "class a{to f(){}}main{(new a).f();}", text + "}", strings.Repeat("x", 5000)} {
		Text(other)
		if got, f := Text(text); got != want || f != (api.Fault{}) {
			t.Errorf("behind %q: %q %v", other, got, f)
		}
	}
}
