package trim

import (
	"slices"

	"gesso/api"
)

// methods are some of a program, by their numbers, from 1 on, as they stand: of
// each, how many call it.
type methods map[int]int

// usedOf answers the methods that main's block, the first one of those that
// call, comes to.
func usedOf(calls [][]int) methods {
	used := methods{}
	used.follow(calls, 0)
	return used
}

// follow notes the methods that this one calls, and those that they call.
func (m methods) follow(calls [][]int, caller int) {
	for _, number := range calls[caller] {
		m[number]++
		// Not again: in a ring there would be no end.
		if m[number] == 1 {
			m.follow(calls, number)
		}
	}
}

// only answers a program with no other methods than those that are used. All
// else stays where it is.
func only(program api.Node, used methods) api.Node {
	number := 0
	program.Kids = slices.Clone(program.Kids)
	for i, class := range program.Kids {
		if class.Kind != api.NClass {
			continue
		}
		var kids []api.Node
		for _, kid := range class.Kids {
			if kid.Kind == api.NMethod {
				number++
			}
			if kid.Kind != api.NMethod || used[number] > 0 {
				kids = append(kids, kid)
			}
		}
		program.Kids[i].Kids = kids
	}
	return program
}
