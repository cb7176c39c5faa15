package trim

import (
	"testing"

	"gesso/api"
	"gesso/model"
)

// ends counts how runs end, by their Status, of programs of which something
// goes; long are those runs that make many steps.
type ends struct {
	of   [api.Full + 1]int
	long int
}

// count runs a program, and what it becomes, by those scripts.
func (e *ends) count(t *testing.T, text string, scripts [][]int) {
	t.Helper()
	got, rounds, is := agreed(t, text)
	if !is || len(got) > 4000 {
		return
	}
	alike(t, text, got, scripts)
	for _, script := range scripts {
		want, _ := model.Run(text, script)
		if rounds > 0 {
			e.of[want.Status]++
		}
		if want.Steps > 100 {
			e.long++
		}
	}
}

// TestRunsTellTheSame has runs of many programs, by scripts of any kind.
func TestRunsTellTheSame(t *testing.T) {
	var e ends
	k, s := &knot{dice: 51}, &scribe{dice: 51}
	for range 1000 {
		e.count(t, k.program(), [][]int{nil, k.script(), k.script()})
		e.count(t, s.program(), [][]int{nil, s.script()})
	}
	if e.of[api.Done] < 500 || e.of[api.Stuck] < 200 || e.of[api.Fell] < 1000 || e.of[api.Endless] < 100 || e.of[api.Out] < 100 || e.long < 100 {
		t.Error(e)
	}
}
