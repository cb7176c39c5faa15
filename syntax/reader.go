package syntax

import "gesso/api"

// reader goes along the tokens of a text. At a token that the grammar does not
// want it gives up, by panic, so that what it reads needs no look at each step.
type reader struct {
	tokens []api.Token
	at     int // of the token that is next
	long   int // how long the text is
	deep   int // how many { and ( have begun and not ended
}

// gaveUp is what a reader gives up by.
type gaveUp struct{ fault api.Fault }

// programOf answers the program of those tokens of a text that is so long, or
// the first fault.
func programOf(tokens []api.Token, long int) (n api.Node, f api.Fault) {
	defer func() {
		switch why := recover().(type) {
		case nil:
		case gaveUp:
			f = why.fault
		default:
			panic(why) // not the reader's: nothing is known of what was read
		}
	}()
	r := &reader{tokens: tokens, long: long}
	return r.program(), api.Fault{}
}

// next answers the token that is next: one of no kind and without text, where
// the text ends.
func (r *reader) next() api.Token {
	if r.at == len(r.tokens) {
		return api.Token{At: r.long}
	}
	return r.tokens[r.at]
}

// giveUp tells what is wrong at the next token.
func (r *reader) giveUp(e api.Errno) { panic(gaveUp{api.Fault{Code: e, At: r.next().At}}) }

// take goes past the next token, which is one that the grammar wants, and
// answers its text.
func (r *reader) take() string {
	text := r.next().Text
	switch text {
	case "{", "(":
		if r.deep == api.MaxNest {
			r.giveUp(api.ErrDeep)
		}
		r.deep++
	case "}", ")":
		r.deep--
	}
	r.at++
	return text
}

// takes goes past the next token, if it is that word or sign, and tells
// whether it was. (No name and no decimal looks like one.)
func (r *reader) takes(word string) bool {
	is := r.next().Text == word
	if is {
		r.take()
	}
	return is
}

// want goes past those words and signs, one behind the other.
func (r *reader) want(words ...string) {
	for _, word := range words {
		if !r.takes(word) {
			r.giveUp(api.ErrSyntax)
		}
	}
}

// name goes past a name.
func (r *reader) name() string {
	if r.next().Kind != api.TokName {
		r.giveUp(api.ErrSyntax)
	}
	return r.take()
}

// named goes past a name, and answers the node of that kind that has it.
func (r *reader) named(kind int) api.Node { return api.Node{Kind: kind, Text: r.name()} }

// node answers the node of that kind and those kids.
func node(kind int, kids ...api.Node) api.Node { return api.Node{Kind: kind, Kids: kids} }
