package trim

import (
	"slices"
	"testing"

	"gesso/api"
	"gesso/check"
	"gesso/lex"
	"gesso/sorts"
	"gesso/syntax"
)

// stood is a node that knows its number, and in which method it stands: 0 is
// main's block, the methods have numbers from 1 on.
type stood struct {
	api.Node
	at, in int
}

// said is O1 said over again, in another way than the program's: methods are cut
// from the text itself, and all calls are looked at again and again, until no
// method more is used.
type said struct {
	classes []api.Node
	nodes   []stood
	first   []int // of each class: how many methods stand ahead of its own ones
	methods int
	sorts   [][]int
	used    map[int]bool
}

// node notes a node and all in it, which stand in that method.
func (s *said) node(n api.Node, in int) {
	if n.Kind == api.NClass {
		s.first = append(s.first, s.methods)
	}
	if n.Kind == api.NMethod {
		s.methods++
		in = s.methods
	}
	s.nodes = append(s.nodes, stood{n, len(s.nodes), in})
	for _, kid := range n.Kids {
		s.node(kid, in)
	}
}

// found answers the number of the method that is found of a class; 0, if there
// is none.
func (s *said) found(class int, name string, many int) int {
	number := s.first[class]
	over := 0
	for _, kid := range s.classes[class].Kids {
		switch kid.Kind {
		case api.NName:
			at := slices.IndexFunc(s.classes, func(n api.Node) bool { return n.Text == kid.Text })
			over = s.found(at, name, many)
		case api.NMethod:
			number++
			if kid.Text == name && len(kid.Kids)-1 == many {
				return number
			}
		}
	}
	return over
}

// look notes what is used by a call, and answers how many methods that are more.
func (s *said) look(n stood) int {
	more := 0
	if n.Kind != api.NCall || n.in > 0 && !s.used[n.in] {
		return 0
	}
	for _, sort := range s.sorts[n.at+1] {
		if sort < 0 {
			continue
		}
		if m := s.found(sort, n.Text, len(n.Kids)-1); m > 0 && !s.used[m] {
			s.used[m] = true
			more++
		}
	}
	return more
}

// usedIn answers the methods of a program that are used, by one look at it, and
// how many it has.
func usedIn(t *testing.T, text string) (map[int]bool, int) {
	t.Helper()
	program, f := check.Check(text)
	all, g := sorts.Tell(text)
	if f != (api.Fault{}) || g != (api.Fault{}) {
		t.Fatalf("%q: %v %v", text, f, g)
	}
	s := &said{classes: program.Kids[:len(program.Kids)-1], sorts: all, used: map[int]bool{}}
	s.node(program, 0)
	for more := 1; more > 0; {
		more = 0
		for _, n := range s.nodes {
			more += s.look(n)
		}
	}
	return s.used, s.methods
}

// cut answers text without the methods that are not among those.
func cut(t *testing.T, text string, used map[int]bool) string {
	t.Helper()
	tokens, f := lex.Scan(text)
	if f != (api.Fault{}) {
		t.Fatalf("%q: %v", text, f)
	}
	left, copied, number, from, deep := "", 0, 0, -1, 0
	for _, token := range tokens {
		switch {
		case token.Text == "to":
			number++
			from, deep = token.At, 0
		case token.Text == "{":
			deep++
		case token.Text == "}":
			deep--
			if deep == 0 && from >= 0 && !used[number] {
				left += text[copied:from]
				copied = token.At + 1
			}
			if deep == 0 {
				from = -1
			}
		}
	}
	return left + text[copied:]
}

// saidOver answers what a program becomes, and how often methods go from it.
func saidOver(t *testing.T, text string) (string, int) {
	t.Helper()
	for rounds := 0; ; rounds++ {
		used, many := usedIn(t, text)
		if len(used) == many {
			n, _ := check.Check(text)
			printed, f := syntax.Print(n)
			if f != (api.Fault{}) {
				t.Fatalf("%q: %v", text, f)
			}
			return printed, rounds
		}
		text = cut(t, text, used)
	}
}

// agreed asks that Text answers what is said over again, and the same once more
// of what it answered, or the fault of check.Check and nothing else. It answers
// what Text does, how often methods go, and whether text is a program.
func agreed(t *testing.T, text string) (got string, rounds int, is bool) {
	t.Helper()
	_, fault := check.Check(text)
	want := ""
	if fault == (api.Fault{}) {
		want, rounds = saidOver(t, text)
	}
	got, f := Text(text)
	if got != want || f != fault {
		t.Fatalf("%q:\n%q %v, want\n%q %v", text, got, f, want, fault)
	}
	if fault == (api.Fault{}) && len(got) <= 4000 {
		if again, f := Text(got); again != got || f != (api.Fault{}) {
			t.Fatalf("%q:\n%q, once more\n%q %v", text, got, again, f)
		}
	}
	return got, rounds, fault == (api.Fault{})
}
