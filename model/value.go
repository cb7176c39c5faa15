package model

import "gesso/api"

// Kinds of values.
const (
	isNil = iota
	isNumber
	isThing
)

// value is nil, a number, or a thing by the number that names it. Two of them
// are the same if they are equal.
type value struct{ kind, num int }

// truth answers the number that tells whether it is so.
func truth(is bool) value {
	if is {
		return value{isNumber, 1}
	}
	return value{isNumber, 0}
}

// number answers the number n; false, if it is none that may be.
func number(n int64) (value, bool) {
	if n < api.Least || n > api.Most {
		return value{}, false
	}
	return value{isNumber, int(n)}, true
}

// Reckon answers what comes of those numbers by an expression of that kind; 0
// and false, if it falls, or if there is no such expression of so many.
func Reckon(kind int, numbers ...int) (int, bool) {
	if many := operands(kind); many == 0 || many != len(numbers) {
		return 0, false
	}
	all := make([]value, len(numbers))
	for i, n := range numbers {
		v, is := number(int64(n))
		if !is {
			return 0, false
		}
		all[i] = v
	}
	v, is := reckoned(kind, all)
	return v.num, is
}

// operands answers how many values an expression of that kind reckons with; 0,
// if it is none that does.
func operands(kind int) int {
	switch kind {
	case api.NAdd, api.NSub, api.NMul, api.NLess, api.NSame:
		return 2
	case api.NNeg, api.NNot:
		return 1
	}
	return 0
}

// reckoned answers what comes of one or two values by an expression of that
// kind; false, if it falls.
func reckoned(kind int, all []value) (value, bool) {
	if kind == api.NSame {
		return truth(all[0] == all[1]), true
	}
	for _, v := range all {
		if v.kind != isNumber {
			return value{}, false
		}
	}
	// In 64 bits no product of two numbers wraps round. Where there is one
	// value alone, b is it again, and is not asked.
	a, b := int64(all[0].num), int64(all[len(all)-1].num)
	switch kind {
	case api.NAdd:
		return number(a + b)
	case api.NSub:
		return number(a - b)
	case api.NMul:
		return number(a * b)
	case api.NNeg:
		return number(-a)
	case api.NLess:
		return truth(a < b), true
	}
	return truth(a == 0), true // NNot
}
