package image

// How a number stands as bytes: seven bits in each, and the highest one is set
// where another byte comes behind. No number takes more than nine.
const (
	groupBits = 7
	goesOn    = 1 << groupBits
	mostBytes = 9
)

// folded answers n as a number that is not below 0: those from 0 on are the
// even ones, those below 0 the odd ones, so that those near 0 take few bytes.
func folded(n int) uint64 {
	if n < 0 {
		return 2*uint64(-(n+1)) + 1
	}
	return 2 * uint64(n)
}

// unfolded answers the number that folded makes z of.
func unfolded(z uint64) int {
	half := int(z / 2)
	if z%2 == 1 {
		return -half - 1
	}
	return half
}

// appendNumber answers b with n behind it.
func appendNumber(b []byte, n int) []byte {
	z := folded(n)
	for ; z >= goesOn; z >>= groupBits {
		b = append(b, byte(z%goesOn)+goesOn)
	}
	return append(b, byte(z))
}

// appendList answers b with how many numbers there are, and all of them,
// behind it.
func appendList(b []byte, list []int) []byte {
	b = appendNumber(b, len(list))
	for _, n := range list {
		b = appendNumber(b, n)
	}
	return b
}
