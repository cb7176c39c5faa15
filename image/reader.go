package image

import "gesso/api"

// fewestWords is how many words every heap has.
const fewestWords = 2

// reader goes along bytes. Whatever it can't take it gives up at, by panic of
// one of the two below, so that what it reads needs no look at each step.
type reader struct {
	b  []byte
	at int // of the byte that is next
}

// ended is what a reader gives up by where something is wanted behind the last
// byte.
type ended struct{}

// wrong is what a reader gives up by where what stands there can't be.
type wrong struct{ fault api.Fault }

// listsOf answers the words and the roots that stand in b; else the first
// fault of b itself. Whether they may be is not asked.
func listsOf(b []byte) (words, roots []int, f api.Fault) {
	defer func() {
		switch why := recover().(type) {
		case nil:
		case ended:
			f = api.Fault{Code: api.ErrShort, At: len(b)}
		case wrong:
			f = why.fault
		default:
			panic(why) // not the reader's: nothing is known of what was read
		}
	}()
	r := &reader{b: b}
	r.mark()
	some := r.list(fewestWords, api.MaxWords)
	others := r.list(0, api.MaxRoots)
	r.end()
	// Not until here: where the reader gives up, no list is answered.
	return some, others, api.Fault{}
}

// next answers the next byte.
func (r *reader) next() byte {
	if r.at == len(r.b) {
		panic(ended{})
	}
	c := r.b[r.at]
	r.at++
	return c
}

// mark goes past what each image begins with.
func (r *reader) mark() {
	for i := range len(mark) {
		if r.next() != mark[i] {
			panic(wrong{api.Fault{Code: api.ErrForm}})
		}
	}
}

// number answers the number that stands there.
func (r *reader) number() int {
	first := r.at
	var z uint64
	for i := range mostBytes {
		c := r.next()
		if c == 0 && i > 0 {
			panic(wrong{api.Fault{Code: api.ErrForm, At: first}})
		}
		z |= uint64(c%goesOn) << (groupBits * i)
		if c < goesOn {
			return unfolded(z)
		}
	}
	// Only where it is there is a tenth byte one too many: else b has ended.
	r.next()
	panic(wrong{api.Fault{Code: api.ErrForm, At: first}})
}

// list answers the numbers that stand there behind how many they are, which is
// to be from fewest to most.
func (r *reader) list(fewest, most int) []int {
	first := r.at
	many := r.number()
	if many < fewest || many > most {
		panic(wrong{api.Fault{Code: api.ErrSize, At: first}})
	}
	list := make([]int, many)
	for i := range list {
		list[i] = r.number()
	}
	return list
}

// end asks that no byte is left.
func (r *reader) end() {
	if r.at < len(r.b) {
		panic(wrong{api.Fault{Code: api.ErrRest, At: r.at}})
	}
}
