package lex

import (
	"strconv"
	"strings"

	"gesso/api"
)

const (
	letters = "abcdefghijklmnopqrstuvwxyzABCDEFGHIJKLMNOPQRSTUVWXYZ_"
	digits  = "0123456789"
	blanks  = " \n\t"
	note    = "#"
	lineEnd = "\n"
	same    = "==" // the one sign of two bytes
	signs   = "+-*<=!.,;:(){}"
)

// piece answers the kind of the token that begins at that byte, and where it
// ends.
func piece(text string, at int) (kind, end int, e api.Errno) {
	begins := func(all string) bool { return strings.Contains(all, text[at:at+1]) }
	switch {
	case begins(letters):
		end = past(text, at, oneOf(letters+digits))
		return nameKind(text[at:end]), end, api.OK
	case begins(digits):
		end = past(text, at, oneOf(digits))
		return api.TokNumber, end, decimal(text[at:end], text[end:])
	case strings.HasPrefix(text[at:], same):
		return api.TokSign, at + len(same), api.OK
	case begins(signs):
		return api.TokSign, at + 1, api.OK
	}
	return 0, 0, api.ErrRune
}

// past answers the first place, from at on, whose byte does not go on.
func past(text string, at int, goesOn func(c byte) bool) int {
	for at < len(text) && goesOn(text[at]) {
		at++
	}
	return at
}

// oneOf answers who tells the bytes of all from others.
func oneOf(all string) func(c byte) bool {
	return func(c byte) bool { return strings.IndexByte(all, c) >= 0 }
}

// noneOf answers who tells other bytes from those of all.
func noneOf(all string) func(c byte) bool {
	return func(c byte) bool { return strings.IndexByte(all, c) < 0 }
}

// pastGap answers the first place, from at on, that is behind all blanks and
// notes.
func pastGap(text string, at int) int {
	at = past(text, at, oneOf(blanks))
	for strings.HasPrefix(text[at:], note) {
		// The line end that ends a note is a blank.
		at = past(text, at, noneOf(lineEnd))
		at = past(text, at, oneOf(blanks))
	}
	return at
}

// nameKind answers which kind of token a name is.
func nameKind(name string) int {
	switch name {
	case "class", "to", "slot", "main", "var", "if", "else", "while", "return",
		"print", "fork", "wait", "signal", "swap", "new", "gate", "nil", "self":
		return api.TokWord
	}
	return api.TokName
}

// decimal answers what is wrong with those digits, behind being what stands
// behind them.
func decimal(number, behind string) api.Errno {
	// Atoi fails at more digits than an int has room for, and only then.
	n, err := strconv.Atoi(number)
	long := err != nil || n > api.Most
	zeroAhead := len(number) > 1 && number[0] == '0'
	letterBehind := past(behind, 0, oneOf(letters)) > 0
	if long || zeroAhead || letterBehind {
		return api.ErrForm
	}
	return api.OK
}
