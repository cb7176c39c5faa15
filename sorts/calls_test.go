package sorts

import (
	"slices"
	"testing"

	"gesso/api"
)

// calls asks who can call whom in text: of main's block first, then of each
// method.
func calls(t *testing.T, text string, want ...[]int) {
	t.Helper()
	got, f := Calls(text)
	if f != (api.Fault{}) || !slices.EqualFunc(got, want, slices.Equal) {
		t.Errorf("%q: %v %v, want %v", text, got, f, want)
	}
	agreed(t, text)
}

func TestWhoCallsWhom(t *testing.T) {
	calls(t, "main{}", none)
	calls(t, "main{nil.f();}", none)
	calls(t, "class a{to f(){}to g(){}}main{}", none, none, none)
	calls(t, "class a{to f(){}to g(){}}main{(new a).g();}", []int{2}, none, none)
	// In forks and inner blocks; many times.
	calls(t, "class a{to f(){fork{while(1){self.g();}}}to g(){}}main{if(1){fork{(new a).g();(new a).f();(new a).g();}}}", []int{1, 2}, []int{2}, none)
	// By the number of names in parentheses.
	calls(t, "class a{to f(){}to f(x){self.f();}}main{(new a).f(1);}", []int{2}, none, []int{1})
	// Of each class that can stand ahead; of the one that it stands on.
	front := "class a{to f(){}}class b:a{}class c:b{to f(){self.g();}}class d{to g(){}}"
	calls(t, front+"main{var x=new b;x=new d;x.f();}", []int{1}, none, none, none)
	calls(t, front+"main{var x=new a;x.f();x=new b;x=new c;x=1;x=gate;}", []int{1, 2}, none, none, none)
	// By a swap, also in a method that is never called.
	calls(t, front+"main{swap(new c,new d);(new c).f();}", []int{2}, none, []int{3}, none)
	calls(t, "class a{to f(){}to u(){swap(new a,new b);}}class b{to f(){self.f();}}main{(new a).f();}", []int{1, 3}, none, none, []int{1, 3})
	// A method that is never called has no self.
	calls(t, "class a{to f(){self.f();}}main{}", none, none)
	calls(t, "class a{to f(){(new a).f();}}main{}", none, []int{1})
}

// TestCallsShareNoMemory asks that no two lists lie in the same memory.
func TestCallsShareNoMemory(t *testing.T) {
	text := "class a{to f(){self.f();self.g();}to g(){self.g();self.f();}}main{(new a).f();(new a).g();}"
	want := [][]int{{1, 2}, {1, 2}, {1, 2}}
	one, _ := Calls(text)
	other, _ := Calls(text)
	for i, list := range one[:cap(one)] {
		for k := range list[:cap(list)] {
			list[:cap(list)][k] = 1000 + i
		}
	}
	for i, list := range one {
		for _, number := range list {
			if number != 1000+i {
				t.Errorf("list %d is another one's, too", i)
			}
		}
	}
	if !slices.EqualFunc(other, want, slices.Equal) {
		t.Error(other)
	}
}
