package syntax

import "gesso/api"

func (r *reader) statement() api.Node {
	switch {
	case r.takes("var"):
		return r.setting(api.NVar)
	case r.beginsSet():
		return r.setting(api.NSet)
	case r.takes("if"):
		return r.choice()
	case r.takes("while"):
		asked := r.inParentheses()
		return node(api.NWhile, asked, r.block())
	case r.takes("return"):
		return r.ended(api.NReturn, r.expr())
	case r.takes("print"):
		return r.ended(api.NPrint, r.inParentheses())
	case r.takes("fork"):
		return node(api.NFork, r.block())
	case r.takes("wait"):
		return r.ended(api.NWait, r.inParentheses())
	case r.takes("signal"):
		return r.ended(api.NSignal, r.inParentheses())
	case r.takes("swap"):
		return r.exchange()
	}
	return r.ended(api.NDo, r.expr())
}

// beginsSet tells whether a name and then a = are next.
func (r *reader) beginsSet() bool {
	if r.next().Kind != api.TokName {
		return false
	}
	behind := *r
	behind.at++
	return behind.next().Text == "="
}

// setting reads what a name is to hold.
func (r *reader) setting(kind int) api.Node {
	n := r.named(kind)
	r.want("=")
	n.Kids = []api.Node{r.expr()}
	r.want(";")
	return n
}

func (r *reader) choice() api.Node {
	asked := r.inParentheses()
	n := node(api.NIf, asked, r.block())
	if r.takes("else") {
		n.Kids = append(n.Kids, r.block())
	}
	return n
}

func (r *reader) exchange() api.Node {
	r.want("(")
	one := r.expr()
	r.want(",")
	other := r.expr()
	r.want(")", ";")
	return node(api.NSwap, one, other)
}

func (r *reader) inParentheses() api.Node {
	r.want("(")
	n := r.expr()
	r.want(")")
	return n
}

// ended goes past the end of a statement of that kind, all of which was read.
func (r *reader) ended(kind int, kid api.Node) api.Node {
	r.want(";")
	return node(kind, kid)
}
