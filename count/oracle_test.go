package count

import (
	"slices"
	"testing"

	"gesso/api"
)

// bare is a heap that may be, with its roots, on which T1 and T2 are said over
// again without maps and views.
type bare struct{ words, roots []int }

// places answers where things begin.
func (b bare) places() []int {
	var all []int
	for at := 2; at < len(b.words); at += 3 + b.words[at+2]/4 {
		all = append(all, at)
	}
	return all
}

// given answers what the thing at that place gives: its class, and its slots,
// if it is Plain.
func (b bare) given(at int) []int {
	out := []int{b.words[at]}
	if b.words[at+2]%4 == 0 {
		out = append(out, b.words[at+3:at+3+b.words[at+2]/4]...)
	}
	return out
}

func times(o int, list []int) int {
	many := 0
	for _, p := range list {
		if p == o {
			many++
		}
	}
	return many
}

// counts is T1, asked of one thing after the other.
func (b bare) counts() []int {
	var out []int
	for _, at := range b.places() {
		many := times(2*at, b.roots)
		for _, by := range b.places() {
			many += times(2*at, b.given(by))
		}
		out = append(out, many)
	}
	return out
}

// gone is T2: all others than those that roots give something, and whom those
// come to, where everybody is asked again and again until nobody more is held.
func (b bare) gone() []int {
	var held []int
	for more := true; more; {
		more = false
		for _, at := range b.places() {
			if slices.Contains(held, at) {
				continue
			}
			left := times(2*at, b.roots)
			for _, by := range held {
				left += times(2*at, b.given(by))
			}
			if left > 0 {
				held, more = append(held, at), true
			}
		}
	}
	var out []int
	for _, at := range b.places() {
		if !slices.Contains(held, at) {
			out = append(out, 2*at)
		}
	}
	return out
}

// holdAgainstBare holds both answers against those of bare words, and asks all
// that T3 says.
func holdAgainstBare(t *testing.T, h api.Heap, roots []int) {
	t.Helper()
	b := bare{h.Words, roots}
	counts, f := Counts(h, roots)
	if want := b.counts(); f != fine || !slices.Equal(counts, want) {
		t.Fatalf("%v %v: Counts: %v %v, want %v", h, roots, counts, f, want)
	}
	gone, f := Trial(h, roots)
	if want := b.gone(); f != fine || !slices.Equal(gone, want) {
		t.Fatalf("%v %v: Trial: %v %v, want %v", h, roots, gone, f, want)
	}
	holdT3(t, "against bare words", h, roots)
}
