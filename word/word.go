// Package word says what a word of the heap holds, and reckons with small
// numbers that stand in words as references.
package word

import "gesso/api"

// The bounds of references: odd ones of small numbers, even ones of things.
// The words at the places 0 and 1 are no things, so the first one is at 2.
const (
	leastSmall = 2*api.Least + 1
	mostSmall  = 2*api.Most + 1
	firstThing = 2 * 2
	lastThing  = 2 * (api.MaxWords - 1)
)

// Kind answers which kind of reference o is: api.KindSmall, api.KindNil,
// api.KindThing, or api.KindNone if it is no reference. It does not ask
// whether a thing stands at the place that o names.
func Kind(o int) int {
	switch {
	case o == 0:
		return api.KindNil
	case isOdd(o) && leastSmall <= o && o <= mostSmall:
		return api.KindSmall
	case !isOdd(o) && firstThing <= o && o <= lastThing:
		return api.KindThing
	}
	return api.KindNone
}

// isOdd asks the lowest bit, since o%2 is -1 for odd numbers below 0.
func isOdd(o int) bool { return o&1 == 1 }

// Small answers the reference of n; 0 and false if n is not from api.Least
// to api.Most.
func Small(n int) (int, bool) {
	return reference(int64(n), true)
}

// Value answers the number that o is of; 0 and false if o is not small.
func Value(o int) (int, bool) {
	if Kind(o) != api.KindSmall {
		return 0, false
	}
	return (o - 1) / 2, true
}

// Add answers the reference of the sum of the numbers that a and b are of;
// 0 and false if one is not small or the sum has no reference.
func Add(a, b int) (int, bool) {
	return reference(reckon(a, b, func(x, y int64) int64 { return x + y }))
}

// Sub answers the reference of the difference of the numbers that a and b
// are of; 0 and false if one is not small or the difference has no reference.
func Sub(a, b int) (int, bool) {
	return reference(reckon(a, b, func(x, y int64) int64 { return x - y }))
}

// Mul answers the reference of the product of the numbers that a and b are
// of; 0 and false if one is not small or the product has no reference.
func Mul(a, b int) (int, bool) {
	return reference(reckon(a, b, func(x, y int64) int64 { return x * y }))
}

// Less answers whether the number that a is of is below the one that b is
// of, and true; false and false if one is not small.
func Less(a, b int) (bool, bool) {
	return reckon(a, b, func(x, y int64) bool { return x < y })
}

// reckon answers what the closure of makes of the numbers that a and b are
// of; zero and false if one is not small. The numbers are 64 bits wide so
// that the product of any two small ones does not wrap round.
func reckon[T any](a, b int, of func(x, y int64) T) (T, bool) {
	x, xSmall := Value(a)
	y, ySmall := Value(b)
	if !xSmall || !ySmall {
		var none T
		return none, false
	}
	return of(int64(x), int64(y)), true
}

// reference answers the reference of n; 0 and false if there is no number
// (ok is false) or n is out of bounds. It takes both so that what reckon
// answers can be handed to it as it is.
func reference(n int64, ok bool) (int, bool) {
	if !ok || n < api.Least || n > api.Most {
		return 0, false
	}
	return int(2*n + 1), true
}
