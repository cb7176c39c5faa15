package syntax

import (
	"strconv"

	"gesso/api"
)

// node writes n, whatever it is.
func (w *writer) node(n api.Node) {
	switch n.Kind {
	case api.NProgram:
		classes := len(n.Kids) - 1
		w.each(front(n.Kids, classes))
		w.put("main")
		w.each(behind(n.Kids, classes))
	case api.NClass:
		w.class(n)
	case api.NSlot:
		w.put("slot", n.Text, ";")
	case api.NMethod:
		w.put("to", n.Text)
		w.row(front(n.Kids, n.Num))
		w.each(behind(n.Kids, n.Num))
	case api.NArg:
		w.put(n.Text)
	case api.NBlock:
		w.put("{")
		w.each(n.Kids)
		w.put("}")
	default:
		w.statement(n)
	}
}

func (w *writer) class(n api.Node) {
	w.put("class", n.Text)
	over := 0
	if len(n.Kids) > 0 && n.Kids[0].Kind == api.NName {
		w.put(":")
		over = 1
	}
	w.each(front(n.Kids, over))
	w.put("{")
	w.each(behind(n.Kids, over))
	w.put("}")
}

// statement writes n, if it is no outer part of a program.
func (w *writer) statement(n api.Node) {
	switch n.Kind {
	case api.NVar:
		w.line(n, "var", n.Text, "=")
	case api.NSet:
		w.line(n, n.Text, "=")
	case api.NIf:
		w.choice(n)
	case api.NWhile:
		w.put("while")
		w.row(front(n.Kids, 1))
		w.each(behind(n.Kids, 1))
	case api.NReturn:
		w.line(n, "return")
	case api.NPrint:
		w.message(n, "print")
	case api.NFork:
		w.put("fork")
		w.each(n.Kids)
	case api.NWait:
		w.message(n, "wait")
	case api.NSignal:
		w.message(n, "signal")
	case api.NSwap:
		w.message(n, "swap")
	case api.NDo:
		w.line(n)
	default:
		w.expr(n)
	}
}

// line writes a statement that is those tokens and its kids.
func (w *writer) line(n api.Node, tokens ...string) {
	w.put(tokens...)
	w.each(n.Kids)
	w.put(";")
}

// message writes a statement that is a word and its kids in parentheses.
func (w *writer) message(n api.Node, word string) {
	w.put(word)
	w.row(n.Kids)
	w.put(";")
}

func (w *writer) choice(n api.Node) {
	w.put("if")
	w.row(front(n.Kids, 1))
	blocks := behind(n.Kids, 1)
	w.each(front(blocks, 1))
	if len(blocks) > 1 {
		w.put("else")
	}
	w.each(behind(blocks, 1))
}

// expr writes n, if it is an expression; nothing, if it is of no kind at all.
func (w *writer) expr(n api.Node) {
	switch n.Kind {
	case api.NLess:
		w.pair(n, adding, "<", adding)
	case api.NSame:
		w.pair(n, adding, "==", adding)
	case api.NAdd:
		w.pair(n, adding, "+", multiplying)
	case api.NSub:
		w.pair(n, adding, "-", multiplying)
	case api.NMul:
		w.pair(n, multiplying, "*", turning)
	case api.NNeg:
		w.put("-")
		w.kid(n, 0, turning)
	case api.NNot:
		w.put("!")
		w.kid(n, 0, turning)
	case api.NCall:
		w.kid(n, 0, calling)
		w.put(".", n.Text)
		w.row(behind(n.Kids, 1))
	case api.NNumber:
		w.put(strconv.Itoa(n.Num))
	case api.NNil:
		w.put("nil")
	case api.NSelf:
		w.put("self")
	case api.NGate:
		w.put("gate")
	case api.NNew:
		w.put("new", n.Text)
	case api.NName:
		w.put(n.Text)
	}
}
