package vm

import (
	"slices"
	"strings"
	"testing"
	"unsafe"

	"gesso/api"
	"gesso/model"
)

// rich is a text in which everything stands.
const rich = "class aaa{slot x;slot y;to put(v,w){x=v;y=w;return self;}to x(){return x;}}class bbb:aaa{slot z;to z(v){z=v;}}" +
	"main{var g=gate;var a=(new aaa).put(1,nil);var b=(new bbb).put(a,2);fork{b.z(gate);wait(g);print(b.x());print(a);}" +
	"var i=0;while(i<9){new bbb;i=i+1;}swap(a,b);signal(g);print(a);print(-i);print(nil);}"

// span notes the bytes of a list, from its first to behind the last one that it
// has room for.
func span[T any](list []T) [2]uintptr {
	var one T
	from := uintptr(unsafe.Pointer(unsafe.SliceData(list)))
	return [2]uintptr{from, from + uintptr(cap(list))*unsafe.Sizeof(one)}
}

// apart asks that no two lists share memory.
func apart(t *testing.T, all ...[2]uintptr) {
	t.Helper()
	for i, a := range all {
		for _, b := range all[:i] {
			if a[0] < b[1] && b[0] < a[1] {
				t.Fatal("two lists share memory")
			}
		}
	}
}

// TestNothingIsTouched: script and when stay as they are, and what lies behind
// them is not asked.
func TestNothingIsTouched(t *testing.T) {
	scripts, picks := []int{1, 0, 1, 1, 7, 1, 1, 1}, []int{5, 2, 2, 9, 11, 12}
	script, when := scripts[:4], picks[:3]
	want, _ := Run(rich, []int{1, 0, 1, 1}, []int{5, 2, 2}, 150)
	r, f := Run(rich, script, when, 150)
	if f != (api.Fault{}) || ends(r) != ends(want) || r.Status != api.Done {
		t.Error(ends(r), ends(want), f)
	}
	h, roots := seen(t, rich, []int{1, 0, 1, 1}, []int{5, 2, 2}, maxWords, 14)
	k, others := seen(t, rich, script, when, maxWords, 14)
	if !slices.Equal(h.Words, k.Words) || !slices.Equal(roots, others) {
		t.Error(h, roots, k, others)
	}
	if !slices.Equal(scripts, []int{1, 0, 1, 1, 7, 1, 1, 1}) || !slices.Equal(picks, []int{5, 2, 2, 9, 11, 12}) {
		t.Error(scripts, picks)
	}
}

// TestAnswersStandOnTheirOwn: no two lists of answers share memory, with one
// another or with what was handed in, and spoiling one is not seen in others.
func TestAnswersStandOnTheirOwn(t *testing.T) {
	text := strings.Clone(rich)
	script, when := []int{1, 1}, []int{3, 4}
	for at := range 30 {
		h, roots := seen(t, text, script, when, 150, at)
		k, others := seen(t, text, script, when, 150, at)
		apart(t, span(h.Words), span(roots), span(k.Words), span(others), span(script), span(when))
		words, refs := slices.Clone(k.Words), slices.Clone(others)
		for _, list := range [][]int{h.Words, roots} {
			for i := range list[:cap(list)] {
				list[:cap(list)][i] = 99
			}
		}
		h, roots = seen(t, text, script, when, 150, at)
		if !slices.Equal(h.Words, words) || !slices.Equal(roots, refs) || !slices.Equal(k.Words, words) {
			t.Fatal(at, h, roots)
		}
	}
	one, _ := Run(text, script, when, 150)
	other, _ := Run(text, script, when, 150)
	apart(t, span(one.Prints), span(other.Prints))
	for _, s := range one.Prints {
		apart(t, span(unsafe.Slice(unsafe.StringData(text), len(text))), span(unsafe.Slice(unsafe.StringData(s), len(s))))
	}
	want := ends(other)
	for i := range one.Prints {
		one.Prints[i] = "spoilt"
	}
	if again, _ := Run(text, script, when, 150); ends(again) != want || ends(other) != want || text != rich {
		t.Error(ends(again), want)
	}
}

// TestCallsStandOnTheirOwn: nothing is kept from call to call.
func TestCallsStandOnTheirOwn(t *testing.T) {
	for range 3 {
		runs(t, rich, []int{1, 1, 1}, "done 32 13 bbb -9 nil 1 bbb")
		ran(t, "main{}", nil, minRoom, "done 0 0")
		shows(t, "main{gate;}", 1, "gate#1(0)", "")
		if _, f := Run("main{}", nil, nil, 99); f.Code != api.ErrSize {
			t.Error(f)
		}
	}
}

// TestOut has runs with just as many steps as there may be, and one more.
func TestOut(t *testing.T) {
	loop := "main{var i=0;while(i<@){gate;i=i+1;}&}"
	with := func(many int, then string) string {
		return strings.ReplaceAll(strings.ReplaceAll(loop, "@", digits(many)), "&", then)
	}
	runs(t, with(maxMarks-1, ""), nil, "done 1499 1499")
	runs(t, with(maxMarks, ""), nil, "done 1500 1500")
	runs(t, with(maxMarks+1, ""), nil, "out 1500 1500")
	runs(t, with(maxMarks-1, "gate.f();"), nil, "out 1500 1500")
	runs(t, with(maxMarks-1, "nil.f();"), nil, "fell 1500 1499")
	runs(t, with(maxMarks-1, "while(1){}"), nil, "endless 1500 1499")
	runs(t, with(maxMarks, "1+nil;"), nil, "out 1500 1500")
	runs(t, with(maxMarks-1, "wait(gate);"), nil, "stuck 1500 1500")
	// The last pick that can be, and one behind it.
	h, _ := seen(t, with(maxMarks+1, ""), nil, []int{maxMarks - 1}, maxWords, maxMarks+9)
	k, _ := seen(t, with(maxMarks+1, ""), nil, []int{maxMarks}, maxWords, maxMarks+9)
	if len(h.Words) != 6+4 || len(k.Words) != 6+4*(maxMarks-3*498) {
		t.Error(len(h.Words), len(k.Words))
	}
	// It is Full with the last step, where that makes a thing.
	full := strings.ReplaceAll(long, "@", "") + "main{var l=nil;var i=0;while(i<22){l=(new n).on(l);i=i+1;}while(i<1455){print(i);i=i+1;}&gate;}"
	for then, want := range map[string]api.Trace{"": {Status: api.Full, Steps: 1500, Made: 22}, "print(0);": {Status: api.Out, Steps: 1500, Made: 22}} {
		r, f := Run(strings.ReplaceAll(full, "&", then), nil, nil, minRoom)
		if f != (api.Fault{}) || r.Status != want.Status || r.Steps != want.Steps || r.Made != want.Made || len(r.Prints) < 1433 {
			t.Error(then, r.Status, r.Steps, r.Made, len(r.Prints), f)
		}
	}
}

// TestHardRuns have as much to do as there can be, and end.
func TestHardRuns(t *testing.T) {
	wide := "class w{"
	for i := range 59 {
		wide += "slot s" + digits(i) + ";"
	}
	for _, text := range []string{
		// Many small things that all stay, many that wait, and many swaps.
		"class a{slot x;to on(o){x=o;return self;}}main{var g=gate;" + times("fork{wait(g);}", 7) + "var l=nil;var i=0;while(i<400){l=(new a).on(l);i=i+1;}while(1){swap(l,new a);}}",
		// Deep calls with many locals, in many processes.
		"class a{to f(n){" + manyVars(28) + "if(n<2){while(1){new a;}}return self.f(n-1);}}main{var o=new a;" + times("fork{o.f(40);}", 7) + "o.f(40);}",
		// Great things.
		wide + "to f(){s58=self;return s0;}}main{while(1){(new w).f();}}",
	} {
		for _, when := range [][]int{nil, each()} {
			for _, script := range [][]int{nil, each()} {
				r, f := Run(text, script, when, maxWords)
				want, _ := model.Run(text, script)
				if f != (api.Fault{}) || ends(r) != ends(want) || r.Status != api.Out {
					t.Error(short(text), ends(r), ends(want), f)
				}
			}
		}
	}
}

// manyVars writes so many vars.
func manyVars(many int) string {
	text := ""
	for i := range many {
		text += "var v" + digits(i) + "=n;"
	}
	return text
}
