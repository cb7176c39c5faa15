package syntax

import "gesso/api"

// program reads all there is.
func (r *reader) program() api.Node {
	kids := r.each("class", r.class)
	r.want("main")
	kids = append(kids, r.block())
	if r.at < len(r.tokens) {
		r.giveUp(api.ErrSyntax)
	}
	return node(api.NProgram, kids...)
}

// each reads what begins with that word, as often as it stands there; one reads
// what is behind the word.
func (r *reader) each(word string, one func() api.Node) []api.Node {
	var all []api.Node
	for r.takes(word) {
		all = append(all, one())
	}
	return all
}

func (r *reader) class() api.Node {
	n := r.named(api.NClass)
	if r.takes(":") {
		n.Kids = append(n.Kids, r.named(api.NName))
	}
	r.want("{")
	n.Kids = append(n.Kids, r.each("slot", r.slot)...)
	n.Kids = append(n.Kids, r.each("to", r.method)...)
	r.want("}")
	return n
}

func (r *reader) slot() api.Node {
	n := r.named(api.NSlot)
	r.want(";")
	return n
}

func (r *reader) method() api.Node {
	n := r.named(api.NMethod)
	n.Kids = r.row(r.arg)
	n.Num = len(n.Kids)
	n.Kids = append(n.Kids, r.block())
	return n
}

func (r *reader) arg() api.Node { return r.named(api.NArg) }

// row reads what stands in parentheses, none or some, commas between them.
func (r *reader) row(one func() api.Node) []api.Node {
	r.want("(")
	if r.takes(")") {
		return nil
	}
	all := []api.Node{one()}
	for r.takes(",") {
		all = append(all, one())
	}
	r.want(")")
	return all
}

func (r *reader) block() api.Node {
	r.want("{")
	var all []api.Node
	for !r.takes("}") {
		all = append(all, r.statement())
	}
	return node(api.NBlock, all...)
}
