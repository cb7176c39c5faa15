package model

import "gesso/api"

// Kinds of values.
const (
	isNil = iota
	isNumber
	isThing
)

// value is nil, a number, or a thing by the number that names it. Two of them
// are the same if they are equal.
type value struct{ kind, num int }

// truth answers the number that tells whether it is so.
func truth(is bool) value {
	if is {
		return value{isNumber, 1}
	}
	return value{isNumber, 0}
}

// number answers the number n; false, if it is none that may be.
func number(n int64) (value, bool) {
	if n < api.Least || n > api.Most {
		return value{}, false
	}
	return value{isNumber, int(n)}, true
}

// reckoned answers what comes of one or two values by an expression of that
// kind; false, if it falls.
func reckoned(kind int, all []value) (value, bool) {
	if kind == api.NSame {
		return truth(all[0] == all[1]), true
	}
	for _, v := range all {
		if v.kind != isNumber {
			return value{}, false
		}
	}
	// In 64 bits no product of two numbers wraps round. Where there is one
	// value alone, b is it again, and is not asked.
	a, b := int64(all[0].num), int64(all[len(all)-1].num)
	switch kind {
	case api.NAdd:
		return number(a + b)
	case api.NSub:
		return number(a - b)
	case api.NMul:
		return number(a * b)
	case api.NNeg:
		return number(-a)
	case api.NLess:
		return truth(a < b), true
	}
	return truth(a == 0), true // NNot
}
