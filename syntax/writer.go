package syntax

import (
	"strings"

	"gesso/api"
)

// How strongly what stands in an expression holds together, weakest first: a
// row of the grammar each.
const (
	comparing = iota
	adding
	multiplying
	turning
	calling
	standing
)

// strength answers how strongly a node of that kind holds together.
func strength(kind int) int {
	switch kind {
	case api.NLess, api.NSame:
		return comparing
	case api.NAdd, api.NSub:
		return adding
	case api.NMul:
		return multiplying
	case api.NNeg, api.NNot:
		return turning
	case api.NCall:
		return calling
	}
	return standing
}

// writer makes tokens of nodes. It does not ask whether they may be: what a
// node does not have is left out, what it has besides, too.
type writer struct{ tokens []string }

// tokensOf answers the tokens of n, with as few parentheses as there can be.
func tokensOf(n api.Node) []string {
	w := &writer{}
	w.node(n)
	return w.tokens
}

func (w *writer) put(tokens ...string) { w.tokens = append(w.tokens, tokens...) }

// each writes those nodes one behind the other.
func (w *writer) each(all []api.Node) {
	for _, n := range all {
		w.node(n)
	}
}

// row writes those nodes in parentheses, commas between them.
func (w *writer) row(all []api.Node) {
	w.put("(")
	for i, n := range all {
		if i > 0 {
			w.put(",")
		}
		w.node(n)
	}
	w.put(")")
}

// kid writes kid i of n, in parentheses where it is weaker than it has to be.
func (w *writer) kid(n api.Node, i, least int) {
	if i >= len(n.Kids) {
		return
	}
	if strength(n.Kids[i].Kind) < least {
		w.row(n.Kids[i : i+1])
		return
	}
	w.node(n.Kids[i])
}

// pair writes the two kids of n, each as strong as it has to be, with that sign
// between them.
func (w *writer) pair(n api.Node, one int, sign string, other int) {
	w.kid(n, 0, one)
	w.put(sign)
	w.kid(n, 1, other)
}

// front answers the first of those nodes, as many as there are of them.
func front(all []api.Node, many int) []api.Node { return all[:max(0, min(many, len(all)))] }

// behind answers those nodes without the first ones.
func behind(all []api.Node, many int) []api.Node { return all[len(front(all, many)):] }

// shortest answers the shortest text of those tokens.
func shortest(tokens []string) string {
	var text strings.Builder
	apart := false
	for _, token := range tokens {
		if apart && isWordy(token) {
			text.WriteString(blank)
		}
		text.WriteString(token)
		apart = isWordy(token)
	}
	return text.String()
}

// isWordy tells whether a token runs together with another one such beside it:
// signs do not, since none stands beside one that makes a longer sign of it.
func isWordy(token string) bool { return strings.Trim(token, "=+-*<!.,;:(){}") != "" }
