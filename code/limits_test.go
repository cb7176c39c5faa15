package code

import (
	"slices"
	"strconv"
	"strings"
	"testing"
	"unsafe"

	"gesso/api"
)

// The limits stand here as plain digits, so that a slip in how the program
// works them out is seen.
const (
	maxText   = 4000
	maxNodes  = 600
	maxLocals = 30
	maxSize   = 60
)

// numbered answers that text so many times, each # in it being a number, 0 on.
func numbered(text string, many int) string {
	s := ""
	for i := range many {
		s += strings.ReplaceAll(text, "#", strconv.Itoa(i))
	}
	return s
}

func TestAsManyLocalsAsMayBe(t *testing.T) {
	vars := numbered("var v#=#;", maxLocals)
	localsAre(t, "main{"+vars+"fork{v29=v0;}}", maxLocals, maxLocals)
	localsAre(t, "main{"+numbered("var v#=1;", 9)+"fork{"+numbered("var w#=1;", maxLocals-9)+"}}", 9, maxLocals)
	localsAre(t, "class a{to f("+numbered("v#,", maxLocals-1)+"v){v=v0;}}main{}", 0, maxLocals)
	mainIs(t, vars+"v29=v0;", numbered("push #, store #, ", maxLocals)+"load 0, store 29")
	refused(t, "main{"+vars+"var x=1;}", api.ErrSize, 2+2*maxLocals)
}

func TestAsManySlotsAsMayBe(t *testing.T) {
	text := "class a{" + numbered("slot s#;", 20) + "}class b:a{" + numbered("slot t#;", maxSize-21) + "to f(){t38=s19;s0=t0;}}main{}"
	classesAre(t, text, "class a -1 20", "class b 0 59 f/0@1")
	listsAre(t, text, "", "get 19, put 58, get 20, put 0, nil, return")
}

func TestLongLists(t *testing.T) {
	agreed(t, "main{"+strings.Repeat("1;", maxNodes/2-1)+"}")
	agreed(t, "main{1"+strings.Repeat("+1", 290)+";}")
	agreed(t, "main{"+strings.Repeat("-", 590)+"1;}")
	agreed(t, "main{nil"+strings.Repeat(".f(1)", 290)+";}")
	agreed(t, "main{}"+strings.Repeat(" ", maxText-6))
	if p := made(t, "main{"+strings.Repeat("while(1){}", 199)+"}"); len(p.Lists[0]) != 4*199 || p.Lists[0][4*198+2].A != 4*199 {
		t.Error(p)
	}
	p := made(t, "main{"+strings.Repeat("fork{}", 299)+"}")
	if len(p.Lists) != 300 || len(p.Lists[0]) != 299 || p.Lists[0][298] != (api.Order{Op: api.OFork, A: 299}) {
		t.Error(p)
	}
}

// TestDeepBlocks has blocks in one another up to as deep as there may be.
func TestDeepBlocks(t *testing.T) {
	for _, open := range []string{"fork{", "while(1){", "if(1){", "if(1){}else{"} {
		for deep := range 21 {
			want := api.OK
			if deep == 20 {
				want = api.ErrDeep
			}
			text := "main{" + strings.Repeat("var x=1;"+open, deep) + strings.Repeat("}x=2;", deep) + "}"
			if code := agreed(t, text); code != want {
				t.Error(open, deep, code)
			}
		}
	}
}

func TestManyClassesAndNames(t *testing.T) {
	text := "class c0{to m(){}}"
	for i := range 60 {
		text += "class c" + strconv.Itoa(i+1) + ":c" + strconv.Itoa(i) + "{to m(){new c" + strconv.Itoa(60-i) + ".n" + strconv.Itoa(i) + "();}}"
	}
	p := made(t, text+"main{new c0.n7();}")
	if len(p.Classes) != 61 || p.Classes[60].Over != 59 || p.Classes[60].Methods[0].Code != 61 || len(p.Names) != 60 || p.Names[0] != "n7" {
		t.Error(shown(p))
	}
	agreed(t, text+"main{new c0.n7();}")
}

// rich is a text in which everything stands.
const rich = "class aaa { slot rrr; } class bbb : aaa { slot sss; slot ttt; to fff(xxx, yyy) { rrr = self; return xxx.fff(yyy, 1) + 2 * -3; } to ggg() { fork { } } } " +
	"class ccc { to iii() { } } main { var vvv = new bbb; vvv = nil; if (vvv == nil) { } else { vvv; } while (1 < !2) { print(gate); } " +
	"fork { wait(vvv); signal(vvv); fork { var www = vvv; } swap(vvv, vvv.ggg().hhh(1, 2, 3) - 4); } fork { var zzz = 1; } }"

// spans notes the bytes of each list of p, from its first to behind the last
// one that it has room for.
func spans(p api.Program) (all [][2]uintptr) {
	all = append(all, span(p.Classes), span(p.Names), span(p.Lists), span(p.Locals))
	for _, c := range p.Classes {
		all = append(all, span(c.Methods))
	}
	for _, list := range p.Lists {
		all = append(all, span(list))
	}
	return all
}

func span[T any](list []T) [2]uintptr {
	var one T
	from := uintptr(unsafe.Pointer(unsafe.SliceData(list)))
	return [2]uintptr{from, from + uintptr(cap(list))*unsafe.Sizeof(one)}
}

// namesOf answers all names in p.
func namesOf(p api.Program) []string {
	all := slices.Clone(p.Names)
	for _, c := range p.Classes {
		all = append(all, c.Name)
		for _, m := range c.Methods {
			all = append(all, m.Name)
		}
	}
	return all
}

// TestAnswersStandOnTheirOwn asks that no name lies in the text, that no two
// lists share memory, also those of two answers, and that what is done to an
// answer is not seen in the next one.
func TestAnswersStandOnTheirOwn(t *testing.T) {
	text := strings.Clone(rich)
	one, other := made(t, text), made(t, text)
	from := uintptr(unsafe.Pointer(unsafe.StringData(text)))
	for _, s := range slices.Concat(namesOf(one), namesOf(other)) {
		if at := uintptr(unsafe.Pointer(unsafe.StringData(s))); from <= at && at < from+uintptr(len(text)) {
			t.Errorf("%q stands in the text", s)
		}
	}
	all := slices.Concat(spans(one), spans(other))
	for i, a := range all {
		for _, b := range all[:i] {
			if a[0] < b[1] && b[0] < a[1] {
				t.Fatal("two lists share memory")
			}
		}
	}
	want := shown(other)
	spoil(one)
	if again := made(t, text); shown(other) != want || shown(again) != want || text != rich {
		t.Error(shown(other), shown(again))
	}
}

// spoil changes all that p has.
func spoil(p api.Program) {
	for i := range p.Names {
		p.Names[i] = "spoilt"
	}
	for _, list := range p.Lists {
		for i := range list[:cap(list)] {
			list[:cap(list)][i] = api.Order{Op: 99, A: 99, B: 99}
		}
	}
	for i := range p.Locals {
		p.Locals[i] = 99
	}
	for i := range p.Classes {
		for k := range p.Classes[i].Methods {
			p.Classes[i].Methods[k] = api.Method{}
		}
		p.Classes[i] = api.Class{}
	}
}

// TestCallsStandOnTheirOwn asks that nothing is kept from call to call.
func TestCallsStandOnTheirOwn(t *testing.T) {
	for range 3 {
		agreed(t, rich)
		namesAre(t, "main{nil.a();}", "a")
		refused(t, "main{new bbb;}", api.ErrName, 3)
		mainIs(t, "", "")
	}
}
