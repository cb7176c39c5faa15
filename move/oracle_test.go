package move

import (
	"slices"
	"testing"

	"gesso/api"
)

// thing is one of a heap that is built by numbers of things, not by places.
// A class, and a slot of Plain or Weak: the number of a thing, or one of the
// others below; a slot of Bytes is its byte.
type thing struct {
	class, hash, form int
	slots             []int
}

// none is nil; small(n) the small reference of n.
const none = -1

func small(n int) int { return -1000 - n }

// build answers the heap of those things that order has (by numbers), in that
// order, and all references by numbers: nil of those that it has not.
func build(things []thing, next int, order []int) (api.Heap, []int) {
	refs := make([]int, len(things))
	at := 2
	for _, n := range order {
		refs[n] = 2 * at
		at += 3 + len(things[n].slots)
	}
	words := []int{0, next}
	for _, n := range order {
		x := things[n]
		words = append(words, refOf(refs, x.class), x.hash, 4*len(x.slots)+x.form)
		if x.form == api.Bytes {
			words = append(words, x.slots...)
		} else {
			words = append(words, refsOf(refs, x.slots)...)
		}
	}
	return api.Heap{Words: words}, refs
}

func refOf(refs []int, n int) int {
	switch {
	case n >= 0:
		return refs[n]
	case n == none:
		return 0
	}
	return 2*(-n-1000) + 1
}

func refsOf(refs []int, numbers []int) []int {
	var out []int
	for _, n := range numbers {
		out = append(out, refOf(refs, n))
	}
	return out
}

func inOrder(n int) []int {
	var out []int
	for i := range n {
		out = append(out, i)
	}
	return out
}

// wantOrder is the order of R1 said over again, by rounds: who is in the
// roots; then, round by round, whom those lead to that came in the last one.
func wantOrder(things []thing, roots []int) []int {
	var order []int
	for next := roots; len(next) > 0; {
		var came []int
		for _, n := range next {
			if n >= 0 && !slices.Contains(order, n) {
				order, came = append(order, n), append(came, n)
			}
		}
		next = nil
		for _, n := range came {
			next = append(next, things[n].class)
			if things[n].form == api.Plain {
				next = append(next, things[n].slots...)
			}
		}
	}
	return order
}

// holdR1 holds what comes of things, laid in that order, and of roots against
// those that are built anew in the order of R1.
func holdR1(t *testing.T, things []thing, next int, laid, roots []int) {
	t.Helper()
	h, refs := build(things, next, laid)
	want, wantRefs := build(things, next, wantOrder(things, roots))
	k, others, f := Collect(h, refsOf(refs, roots))
	if f != fine || !slices.Equal(k.Words, want.Words) || !slices.Equal(others, refsOf(wantRefs, roots)) {
		t.Fatalf("%v %v: %v %v %v, want %v %v", h, refsOf(refs, roots), k, others, f, want, refsOf(wantRefs, roots))
	}
	holdFirstNamed(t, k, others)
	holdR2(t, "built by numbers", h, refsOf(refs, roots))
}

// holdFirstNamed asks of a new heap alone what R1 says of it: who goes through
// its roots, and then through its words, finds each thing named first where
// the one ahead of it has been named, and finds all of them.
func holdFirstNamed(t *testing.T, k api.Heap, roots []int) {
	t.Helper()
	var places []int
	for at := 2; at < len(k.Words); at += 3 + k.Words[at+2]/4 {
		places = append(places, at)
	}
	named := 0
	name := func(refs ...int) {
		for _, o := range refs {
			if o%2 != 0 || o == 0 || slices.Index(places, o/2) < named {
				continue
			}
			if o/2 != places[named] {
				t.Fatalf("%v %v: %d is named ahead of %d", k, roots, o, 2*places[named])
			}
			named++
		}
	}
	name(roots...)
	for _, at := range places {
		name(k.Words[at])
		if k.Words[at+2]%4 == api.Plain {
			name(k.Words[at+3 : at+3+k.Words[at+2]/4]...)
		}
	}
	if named != len(places) {
		t.Fatalf("%v %v: %d of %d things are named", k, roots, named, len(places))
	}
}
