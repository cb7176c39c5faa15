package check

import (
	"slices"
	"strconv"
	"strings"
	"testing"
	"unsafe"

	"gesso/api"
)

// names answers so many names, the front and a number each, with that behind
// each of them.
func names(front string, many int, behind string) string {
	s := ""
	for i := range many {
		s += front + strconv.Itoa(i) + behind
	}
	return s
}

// slots answers so many slots.
func slots(front string, many int) string {
	s := ""
	for _, name := range strings.Fields(names(front, many, " ")) {
		s += "slot " + name + ";"
	}
	return s
}

// vars answers so many vars, of two nodes each.
func vars(front string, many int) string {
	s := ""
	for _, name := range strings.Fields(names(front, many, " ")) {
		s += "var " + name + "=1;"
	}
	return s
}

// args answers so many names, with commas between them.
func args(front string, many int) string { return strings.TrimSuffix(names(front, many, ","), ",") }

func TestHowManySlots(t *testing.T) {
	taken(t, "class a{"+slots("s", maxSize-1)+"}main{}")
	refused(t, "class a{"+slots("s", maxSize)+"}main{}", api.ErrSize, 1+maxSize)
	refused(t, "class a{"+slots("s", maxSize+9)+"}main{}", api.ErrSize, 1+maxSize)
	refused(t, "class a{"+slots("s", maxSize-1)+"slot s0;}main{}", api.ErrTwice, 1+maxSize)
	refused(t, "class a{"+slots("s", maxSize)+"slot s0;}main{x;}", api.ErrSize, 1+maxSize)
	taken(t, "class a{"+slots("s", maxSize-1)+"}class b{"+slots("s", maxSize-1)+"}class c:b{}main{}")
}

// TestHowManySlotsInAll counts those of the classes that a class stands on.
func TestHowManySlotsInAll(t *testing.T) {
	for _, many := range []int{0, 1, 7, maxSize - 2, maxSize - 1} {
		a := "class a{" + slots("s", many) + "}"
		left := maxSize - 1 - many
		taken(t, a+"class b:a{"+slots("t", left)+"}main{}")
		refused(t, a+"class b:a{"+slots("t", left+1)+"}main{}", api.ErrSize, many+4+left)
		refused(t, a+"class b:a{"+slots("t", left)+"slot t;}class c:d{}main{}", api.ErrSize, many+4+left)
		taken(t, a+"class b:a{"+slots("t", left)+"}class c:a{"+slots("t", left)+"}class d:c{}main{}")
		refused(t, a+"class b:a{"+slots("t", left)+"}class c:b{slot t;}main{}", api.ErrSize, many+6+left)
		if many > 0 {
			refused(t, a+"class b:a{"+slots("t", left)+"slot s0;}main{}", api.ErrTwice, many+4+left)
		}
	}
	a := "class a{" + slots("s", 20) + "}class b:a{" + slots("t", 20) + "}"
	taken(t, a+"class c:b{"+slots("u", maxSize-41)+"to f(){s0=t0;s19=t19;u0=u18;}}main{}")
	refused(t, a+"class c:b{"+slots("u", maxSize-40)+"}main{}", api.ErrSize, 20+20+maxSize-40+5)
}

func TestHowManyVars(t *testing.T) {
	taken(t, "main{"+vars("n", maxLocals)+"}")
	refused(t, "main{"+vars("n", maxLocals+1)+"}", api.ErrSize, 2+2*maxLocals)
	refused(t, "main{"+vars("n", maxLocals+9)+"}", api.ErrSize, 2+2*maxLocals)
	taken(t, "class a{to f(){"+vars("n", maxLocals)+"}}main{"+vars("n", maxLocals)+"}")
	refused(t, "class a{to f(){"+vars("n", maxLocals+1)+"}}main{}", api.ErrSize, 4+2*maxLocals)
	refused(t, "class a{to f(){}}main{"+vars("n", maxLocals+1)+"}", api.ErrSize, 5+2*maxLocals)
	// Named first: twice.
	refused(t, "main{"+vars("n", maxLocals)+"var n0=1;}", api.ErrTwice, 2+2*maxLocals)
	taken(t, "main{"+vars("n", maxLocals)+"n0=n29;print(n0+n29);if(n0){n0;}}")
}

func TestHowManyNamesInParentheses(t *testing.T) {
	taken(t, "class a{to f("+args("n", maxLocals)+"){}to g("+args("n", maxLocals)+"){n0=n29;}}main{}")
	refused(t, "class a{to f("+args("n", maxLocals+1)+"){}}main{}", api.ErrSize, 3+maxLocals)
	refused(t, "class a{to f("+args("n", maxLocals+9)+"){x;}}main{}", api.ErrSize, 3+maxLocals)
	refused(t, "class a{to f("+args("n", maxLocals)+",n7){}}main{}", api.ErrTwice, 3+maxLocals)
	refused(t, "class a{to f("+args("n", maxLocals)+"){var x=1;}}main{}", api.ErrSize, 4+maxLocals)
	refused(t, "class a{to f("+args("n", maxLocals)+"){var n0=1;}}main{}", api.ErrTwice, 4+maxLocals)
	refused(t, "class a{to f("+args("n", maxLocals)+"){fork{var n0=1;}}}main{}", api.ErrSize, 6+maxLocals)
	taken(t, "class a{to f("+args("n", 10)+"){"+vars("m", maxLocals-10)+"}}main{}")
	refused(t, "class a{to f("+args("n", 10)+"){"+vars("m", maxLocals-9)+"}}main{}", api.ErrSize, 14+2*(maxLocals-10))
	// A call has as many as it likes: only names are locals.
	taken(t, "main{nil.f("+strings.TrimSuffix(times("1,", 99), ",")+");}")
}

// TestLocalsOfBlocksAround counts those of all blocks that have not ended.
func TestLocalsOfBlocksAround(t *testing.T) {
	for _, c := range []struct {
		open, behind string
		nodes        int
	}{
		{"fork{", "}", 2}, {"while(1){", "}", 3}, {"if(1){", "}", 3}, {"if(1){", "}else{}", 3}, {"if(1){}else{", "}", 4},
	} {
		taken(t, "main{"+vars("n", 9)+c.open+vars("n", maxLocals-9)+c.behind+vars("m", maxLocals-9)+"}")
		refused(t, "main{"+vars("n", 9)+c.open+vars("m", maxLocals-8)+c.behind+"}", api.ErrSize, 2+2*maxLocals+c.nodes)
		taken(t, "main{"+vars("n", 9)+c.open+vars("n", 9)+c.open+vars("n", maxLocals-18)+c.behind+c.behind+"}")
		refused(t, "main{"+vars("n", 9)+c.open+vars("n", 9)+c.open+vars("n", maxLocals-17)+c.behind+c.behind+"}",
			api.ErrSize, 2+2*maxLocals+2*c.nodes)
		taken(t, "class a{to f("+args("n", 9)+"){"+c.open+vars("n", maxLocals-9)+c.behind+"}}main{}")
		refused(t, "class a{to f("+args("n", 9)+"){"+c.open+vars("n", maxLocals-8)+c.behind+"}}main{}",
			api.ErrSize, 4+9+2*(maxLocals-9)+c.nodes)
	}
}

// TestLocalsOneBlockAfterAnother has many more than may be there at once.
func TestLocalsOneBlockAfterAnother(t *testing.T) {
	block := "fork{" + vars("n", maxLocals) + "}"
	taken(t, "main{"+times(block, 9)+"}")
	taken(t, "main{if(1){"+vars("n", maxLocals)+"}else{"+vars("n", maxLocals)+"}"+vars("n", maxLocals)+"}")
	taken(t, "class a{to f(){"+block+block+vars("n", maxLocals)+"}to g("+args("n", maxLocals)+"){}}main{"+times(block, 4)+"}")
	taken(t, "main{"+times("while(1){var x=1;fork{var x=2;}}", 40)+"}")
	refused(t, "main{"+times(block, 3)+vars("n", maxLocals+1)+"}", api.ErrSize, 2+3*(2+2*maxLocals)+2*maxLocals)
	refused(t, "main{"+vars("m", maxLocals-1)+times("fork{var x=1;}", 50)+"var x=1;var y=1;}", api.ErrSize, 2+2*maxLocals+4*50)
}

// lists answers all lists of n.
func lists(n api.Node) [][]api.Node {
	all := [][]api.Node{n.Kids}
	for _, kid := range n.Kids {
		all = append(all, lists(kid)...)
	}
	return all
}

// texts answers all texts of n.
func texts(n api.Node) []string {
	all := []string{n.Text}
	for _, kid := range n.Kids {
		all = append(all, texts(kid)...)
	}
	return all
}

// rich is a text in which everything stands.
const rich = "class aaa { slot rrr; } class bbb : aaa { slot sss; slot ttt; to fff(xxx, yyy) { rrr = self; return xxx.fff(yyy, 1) + 2 * -3; } to ggg() { } } " +
	"main { var vvv = new bbb; vvv = nil; if (vvv == nil) { } else { vvv; } while (1 < !2) { print(gate); } " +
	"fork { wait(vvv); signal(vvv); swap(vvv, vvv.ggg().hhh(1, 2, 3) - 4); } }"

// TestAnswersStandOnTheirOwn asks that no name of a node lies in the text, that
// no two lists share memory, also those of two answers, and that what is done
// to an answer is not seen in the next one.
func TestAnswersStandOnTheirOwn(t *testing.T) {
	text := strings.Clone(rich)
	taken(t, text)
	first := uintptr(unsafe.Pointer(unsafe.StringData(text)))
	one, _ := Check(text)
	other, _ := Check(text)
	for _, s := range slices.Concat(texts(one), texts(other)) {
		at := uintptr(unsafe.Pointer(unsafe.StringData(s)))
		if first <= at && at < first+uintptr(len(text)) {
			t.Errorf("%q stands in the text", s)
		}
	}
	seen := map[*api.Node]int{}
	for _, list := range slices.Concat(lists(one), lists(other)) {
		for i := range list[:cap(list)] {
			seen[&list[:cap(list)][i]]++
		}
	}
	for _, times := range seen {
		if times > 1 {
			t.Fatal("two lists share memory")
		}
	}
	want := shown(other)
	for _, list := range lists(one) {
		for i := range list {
			list[i] = api.Node{Kind: 99}
		}
	}
	if again, _ := Check(text); shown(other) != want || shown(again) != want || text != rich {
		t.Error(shown(other), shown(again))
	}
}

// TestCallsStandOnTheirOwn asks that nothing is kept from call to call.
func TestCallsStandOnTheirOwn(t *testing.T) {
	for range 3 {
		taken(t, "class a{slot x;to f(y){var z=x+y;}}main{var v=new a;}")
		refused(t, "main{new a;}", api.ErrName, 3)
		refused(t, "class b:a{}main{}", api.ErrName, 2)
		refused(t, "class a{to f(){x;}}main{}", api.ErrName, 5)
		refused(t, "main{v;}", api.ErrName, 3)
		refused(t, "class a{to f(){self;return 1;}}main{self;}", api.ErrKind, 10)
		taken(t, "class a{to f(y){var x=1;var z=1;}}main{var x=1;}")
	}
}
