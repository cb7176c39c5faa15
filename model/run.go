package model

import "gesso/api"

// run is what all processes of a program have in common.
type run struct {
	things    []thing // each at the number that names it
	processes []*process
	script    []int // what was not asked for yet
	trace     api.Trace
}

// begin makes a process more, that does so with that frame, and lets it go to
// its first mark.
func (r *run) begin(f frame, does step) {
	p := &process{run: r, here: &f, next: does}
	r.processes = append(r.processes, p)
	p.goOn()
}

// toEnd makes picks until the run ends.
func (r *run) toEnd() {
	for r.trace.Status == 0 {
		able := r.able()
		switch {
		case r.haveEnded():
			r.trace.Status = api.Done
		case len(able) == 0:
			r.trace.Status = api.Stuck
		case r.trace.Steps == api.MaxMarks:
			r.trace.Status = api.Out
		default:
			r.trace.Steps++
			able[r.pick(len(able))].goOn()
		}
	}
}

// able answers the processes that are able to go on, by their numbers.
func (r *run) able() []*process {
	var all []*process
	for _, p := range r.processes {
		if p.isAble() {
			all = append(all, p)
		}
	}
	return all
}

func (r *run) haveEnded() bool {
	for _, p := range r.processes {
		if !p.hasEnded() {
			return false
		}
	}
	return true
}

// pick answers which of so many is next. The script is not asked where there
// is nothing to choose.
func (r *run) pick(many int) int {
	if many == 1 || len(r.script) == 0 {
		return 0
	}
	next := r.script[0] % many
	r.script = r.script[1:]
	if next < 0 {
		next += many
	}
	return next
}
