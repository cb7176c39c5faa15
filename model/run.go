package model

import "gesso/api"

// run is what all processes of a program have in common.
type run struct {
	things    []thing // each at the number that names it
	processes []*process
	script    Script
	trace     api.Trace
}

// begin makes a process more, that does so with that frame, and lets it go to
// its first mark.
func (r *run) begin(f frame, does step) {
	p := &process{run: r, here: &f, next: does}
	r.processes = append(r.processes, p)
	p.goOn()
}

// toEnd makes picks until the run ends.
func (r *run) toEnd() {
	for r.trace.Status == 0 {
		p, status := Next(r.processes, r.trace.Steps, &r.script)
		if status != 0 {
			r.trace.Status = status
			return
		}
		r.trace.Steps++
		p.goOn()
	}
}
