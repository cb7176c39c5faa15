package syntax

import (
	"strconv"

	"gesso/api"
)

func (r *reader) expr() api.Node {
	// One link and no more: what is compared is not compared again.
	n, _ := r.link(r.sum(), r.sum, map[string]int{"<": api.NLess, "==": api.NSame})
	return n
}

func (r *reader) sum() api.Node {
	return r.chain(r.term, map[string]int{"+": api.NAdd, "-": api.NSub})
}

func (r *reader) term() api.Node {
	return r.chain(r.unary, map[string]int{"*": api.NMul})
}

// chain reads parts with signs between them, taken from the left; of each sign
// there is the kind of its node.
func (r *reader) chain(part func() api.Node, signs map[string]int) api.Node {
	n := part()
	for is := true; is; {
		n, is = r.link(n, part, signs)
	}
	return n
}

// link reads one of those signs and the part behind it, and answers their node,
// n being ahead; or n as it is, and false, if no such sign is next.
func (r *reader) link(n api.Node, part func() api.Node, signs map[string]int) (api.Node, bool) {
	kind, is := signs[r.next().Text]
	if !is {
		return n, false
	}
	r.take()
	return node(kind, n, part()), true
}

func (r *reader) unary() api.Node {
	switch {
	case r.takes("-"):
		return node(api.NNeg, r.unary())
	case r.takes("!"):
		return node(api.NNot, r.unary())
	}
	return r.call()
}

func (r *reader) call() api.Node {
	n := r.primary()
	for r.takes(".") {
		c := r.named(api.NCall)
		c.Kids = append([]api.Node{n}, r.row(r.expr)...)
		n = c
	}
	return n
}

func (r *reader) primary() api.Node {
	switch {
	case r.next().Kind == api.TokNumber:
		return r.number()
	case r.takes("nil"):
		return node(api.NNil)
	case r.takes("self"):
		return node(api.NSelf)
	case r.takes("gate"):
		return node(api.NGate)
	case r.takes("new"):
		return r.named(api.NNew)
	case r.next().Text == "(":
		return r.inParentheses()
	}
	return r.named(api.NName)
}

func (r *reader) number() api.Node {
	// That it is a number is known: it is a decimal's token.
	n, _ := strconv.Atoi(r.take())
	return api.Node{Kind: api.NNumber, Num: n}
}
