package model

import "gesso/api"

// Script says which process is next, wherever several are able to go on: it is
// what was not asked for yet.
type Script []int

// Player is a process, as far as picks are made among them.
type Player interface {
	HasEnded() bool
	IsAble() bool
}

// Next answers the process that is picked next of a run that has made so many
// steps, and 0; else none, and how the run ends by itself.
func Next[P Player](all []P, steps int, script *Script) (P, int) {
	var none P
	var able []P
	ended := 0
	for _, p := range all {
		switch {
		case p.HasEnded():
			ended++
		case p.IsAble():
			able = append(able, p)
		}
	}
	switch {
	case ended == len(all):
		return none, api.Done
	case len(able) == 0:
		return none, api.Stuck
	case steps == api.MaxMarks:
		return none, api.Out
	}
	return able[script.pick(len(able))], 0
}

// pick answers which of so many is next. The script is not asked where there
// is nothing to choose.
func (s *Script) pick(many int) int {
	if many == 1 || len(*s) == 0 {
		return 0
	}
	next := (*s)[0] % many
	*s = (*s)[1:]
	if next < 0 {
		next += many
	}
	return next
}
