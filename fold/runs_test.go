package fold

import (
	"testing"

	"gesso/api"
	"gesso/model"
)

// ends counts how runs end, by their Status, of programs in which something is
// reckoned; long are those runs that make many steps.
type ends struct {
	of   [api.Full + 1]int
	long int
}

// count runs a program, and what it becomes, by those scripts.
func (e *ends) count(t *testing.T, text string, scripts [][]int) {
	t.Helper()
	got, many, is := agreed(t, text)
	if !is || len(got) > 4000 {
		return
	}
	alike(t, text, got, scripts)
	for _, script := range scripts {
		want, _ := model.Run(text, script)
		if many > 0 {
			e.of[want.Status]++
		}
		if want.Steps > 100 {
			e.long++
		}
	}
}

// TestRunsTellTheSame has runs of many programs, by scripts of any kind.
func TestRunsTellTheSame(t *testing.T) {
	var e ends
	for seed, slips := range []int{8, 30, 200, 1000} {
		s := &scribe{dice: dice(seed + 61), slips: slips}
		for range 300 {
			e.count(t, s.program(), [][]int{nil, s.script(), s.script()})
		}
	}
	if e.of[api.Done] < 200 || e.of[api.Stuck] < 100 || e.of[api.Fell] < 500 || e.of[api.Endless] < 100 || e.of[api.Out] < 100 || e.long < 100 {
		t.Error(e)
	}
}
