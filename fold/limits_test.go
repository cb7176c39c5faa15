package fold

import (
	"strconv"
	"strings"
	"testing"
	"unsafe"

	"gesso/api"
	"gesso/check"
	"gesso/syntax"
)

// refused asks that Text answers that fault, and nothing else.
func refused(t *testing.T, text string, code api.Errno, at int) {
	t.Helper()
	if got, f := Text(text); got != "" || f != (api.Fault{Code: code, At: at}) {
		t.Errorf("%q: %q %v, want %v at %d", text[:min(len(text), 99)], got, f, code, at)
	}
}

// TestFaults are those of check.Check, also where there is something to reckon.
func TestFaults(t *testing.T) {
	refused(t, "", api.ErrSyntax, 0)
	refused(t, "main{print(1+1;}", api.ErrSyntax, 14)
	refused(t, "main{1+1>2;}", api.ErrRune, 8)
	refused(t, "main{1+07;}", api.ErrForm, 7)
	refused(t, "main{1+1073741824;}", api.ErrForm, 7)
	refused(t, "main{1+1;}"+strings.Repeat(" ", 3991), api.ErrSize, 0)
	refused(t, "main{"+strings.Repeat("(", 30)+"1;}", api.ErrDeep, 24)
	refused(t, "main{print("+strings.Repeat("-", 597)+"1);}", api.ErrSize, 0)
	refused(t, "main{print(1+1);x=2+2;}", api.ErrName, 6)
	refused(t, "main{print(1+x);}", api.ErrName, 5)
	refused(t, "main{new b;1+1;}", api.ErrName, 3)
	refused(t, "main{var x=1+1;var x=2;}", api.ErrTwice, 6)
	refused(t, "class a { to f ( x ) { var x = 1 + 1 ; } } main { }", api.ErrTwice, 5)
	refused(t, "main{return 1+1;}", api.ErrKind, 2)
	refused(t, "class a{to f(){fork{return 1+1;}}}main{}", api.ErrKind, 6)
	refused(t, "main{1+self;}", api.ErrKind, 5)
}

// many answers a text so many times.
func many(count int, text string) string { return strings.Repeat(text, count) }

// TestManyNodes has as many as there can be.
func TestManyNodes(t *testing.T) {
	becomes(t, "main{print("+many(596, "-")+"7);}", "main { print ( 7 ) ; }")
	becomes(t, "main{print("+many(595, "-")+"7);}", "main { print ( - 7 ) ; }")
	becomes(t, "main{print("+many(596, "!")+"7);}", "main { print ( 1 ) ; }")
	becomes(t, "main{print("+many(298, "-!")+"0);}", "main { print ( 0 ) ; }")
	becomes(t, "main{print("+many(297, "-!")+"0);}", "main { print ( - 1 ) ; }")
	becomes(t, "main{print(1"+many(298, "+1")+");}", "main { print ( 299 ) ; }")
	becomes(t, "main{print(1"+many(298, "-1")+");}", "main { print ( - 297 ) ; }")
	becomes(t, "main{print(1"+many(29, "*2")+");}", "main { print ( 536870912 ) ; }")
	// From there on nothing more is known.
	becomes(t, "main{print(1"+many(298, "*2")+");}", "main { print ( 536870912"+many(269, " * 2")+" ) ; }")
	stays(t, "main { var x = 1 ; print ( x"+many(297, " + 1")+" ) ; }")
	stays(t, "main { var x = 1 ; print ( "+many(594, "- ")+"x ) ; }")
}

// TestDeepParentheses has as many as there can be within each other.
func TestDeepParentheses(t *testing.T) {
	becomes(t, "main{print("+many(18, "(")+"1"+many(18, ")")+");}", "main { print ( 1 ) ; }")
	becomes(t, "main{print("+many(18, "(1-")+"1"+many(18, ")")+");}", "main { print ( 1 ) ; }")
	becomes(t, "main{print("+many(18, "(")+"1"+many(18, "<2)")+");}", "main { print ( 1 ) ; }")
	becomes(t, "main{var x=1;print("+many(18, "(1-")+"x"+many(18, ")")+");}", "main { var x = 1 ; print ( "+many(17, "1 - ( ")+"1 - x"+many(17, " )")+" ) ; }")
	becomes(t, "main{var x=1;print("+many(17, "(1+1)*(x-")+"(1-2)"+many(17, ")")+");}", "main { var x = 1 ; print ( "+many(17, "2 * ( x - ")+"- 1"+many(17, " )")+" ) ; }")
	becomes(t, "main{"+many(19, "if(1+1){")+many(19, "}")+"}", "main { "+many(19, "if ( 2 ) { ")+many(19, "} ")+"}")
	becomes(t, "main{"+many(17, "fork{")+"print(2*(1+1));"+many(17, "}")+"}", "main { "+many(17, "fork { ")+"print ( 4 ) ; "+many(17, "} ")+"}")
}

// printed answers how long the print of a program is that is not folded.
func printed(t *testing.T, text string) int {
	t.Helper()
	n, f := check.Check(text)
	if f != (api.Fault{}) {
		t.Fatalf("%q: %v", text, f)
	}
	all, f := syntax.Print(n)
	if f != (api.Fault{}) {
		t.Fatalf("%q: %v", text, f)
	}
	return len(all)
}

// TestPrintsOfMostBytes has one that is as long as a text may be, and one that is
// longer by a byte: that one is answered, too, but is no text any more.
func TestPrintsOfMostBytes(t *testing.T) {
	for _, more := range []int{0, 1} {
		front := "main { " + many(140, "print ( - 1 ) ; ")
		name := many(4000+more-len(front+"var  = 1 ; }\n"), "x")
		text := "main{" + many(139, "print(-1);") + "print(1-2);var " + name + "=1;}"
		got, count, is := agreed(t, text)
		if !is || count != 1 || got != front+"var "+name+" = 1 ; }\n" || len(got) != 4000+more {
			t.Errorf("%d bytes: %q", len(got), got)
		}
		if _, f := Text(got); f != (api.Fault{Code: api.Errno(more)}) {
			t.Error(more, f)
		}
	}
}

// TestLongPrints has texts that can be read in fewer bytes than they are printed
// in: what they become is printed whole.
func TestLongPrints(t *testing.T) {
	text := "main{" + many(285, "print(12);") + "print(3*4);}"
	if got, f := Text(text); got != "main { "+many(286, "print ( 12 ) ; ")+"}\n" || f != (api.Fault{}) {
		t.Errorf("%q %v", got, f)
	}
	agreed(t, text)
	// What it becomes is short enough again.
	name := many(3000, "x")
	text = "main{var " + name + "=1" + many(270, "+1") + ";}"
	if long := printed(t, text); long <= 4000 {
		t.Error(long)
	}
	becomes(t, text, "main { var "+name+" = 271 ; }")
}

// TestLongTexts has texts of as many bytes as there may be, of which none can be
// left out: what they become needs no more.
func TestLongTexts(t *testing.T) {
	for _, pair := range [][2]string{{"-0", "0"}, {"!0", "1"}, {"!7", "0"}, {"--1", "1"}, {"9*9", "81"}, {"-9*9", "- 81"}, {"9+9", "18"}, {"-9-9", "- 18"}, {"99999*9999", "999890001"}} {
		front, back := "class a{to f(){return", ";}}main{var "
		value := pair[0]
		if value[0] == '9' {
			value = " " + value
		}
		name := many(4000-len(front+value+back+"=1;}"), "x")
		text := front + value + back + name + "=1;}"
		got, f := Text(text)
		if want := "class a { to f ( ) { return " + pair[1] + " ; } } main { var " + name + " = 1 ; }\n"; len(text) != 4000 || got != want || f != (api.Fault{}) {
			t.Errorf("%s: %d bytes, %d answered, %v", pair[0], len(text), len(got), f)
		}
		agreed(t, text)
	}
}

// TestAllPairs has all signs between numbers about 0 and about the bounds.
func TestAllPairs(t *testing.T) {
	var all []string
	for _, n := range []int{0, 1, 2, 3, 32767, 32768, 32769, 46341, 65536, 536870911, 536870912, 1<<30 - 2, 1<<30 - 1} {
		all = append(all, strconv.Itoa(n), "-"+strconv.Itoa(n))
	}
	for _, one := range all {
		for _, other := range all {
			text := "main{"
			for _, sign := range []string{"+", "-", "*", "<", "=="} {
				text += "print(" + one + sign + other + ");print(!(" + one + sign + other + "));print(-(" + one + sign + other + "));"
			}
			got, _, is := agreed(t, text+"}")
			if !is {
				t.Fatal(text)
			}
			alike(t, text+"}", got, [][]int{nil})
		}
	}
}

// TestAnswersHangOnTheTextAlone: once more, and with others between, the same is
// answered.
func TestAnswersHangOnTheTextAlone(t *testing.T) {
	text := "class a{to f(){return 1+1;}}main{print(2*3-7);print((new a).f()+(3-3));}"
	want, _ := Text(text)
	for _, other := range []string{"", "main{}", "main{print(2*3-7);}", text + "}", many(5000, "x")} {
		Text(other)
		if got, f := Text(text); got != want || f != (api.Fault{}) {
			t.Errorf("behind %q: %q %v", other[:min(len(other), 99)], got, f)
		}
	}
}

// apart tells whether two texts share no memory.
func apart(one, other string) bool {
	from, at := uintptr(unsafe.Pointer(unsafe.StringData(one))), uintptr(unsafe.Pointer(unsafe.StringData(other)))
	return from+uintptr(len(one)) <= at || at+uintptr(len(other)) <= from
}

// TestAnswersAreNew: also of a text that stays as it is.
func TestAnswersAreNew(t *testing.T) {
	first, _ := Text("main{var x=1+1;print(x);}")
	second, _ := Text(first)
	third, _ := Text(first)
	if first != second || second != third || !apart(first, second) || !apart(second, third) || !apart(first, third) {
		t.Errorf("%q %q %q", first, second, third)
	}
}
