package syntax

import (
	"slices"
	"strings"
	"testing"
	"unsafe"

	"gesso/api"
)

// times answers text so many times.
func times(text string, many int) string { return strings.Repeat(text, many) }

// nested answers a text in which what is so deep stands, between what opens
// and what closes one place.
func nested(open, inner, close string, deep int) string {
	return times(open, deep) + inner + times(close, deep)
}

func TestScanFaultsFirst(t *testing.T) {
	refused(t, "x main >", api.ErrRune, 7)
	refused(t, "} 07", api.ErrForm, 2)
	refused(t, "main { 1 2 3x }", api.ErrForm, 11)
	refused(t, "main {"+nested("(", "1", ")", 30)+"} &", api.ErrRune, 69)
	refused(t, "main {"+times("x;", 700)+"} \"", api.ErrRune, 1408)
	refused(t, "x"+times(" ", maxText), api.ErrSize, 0)
	refused(t, "main{}"+times(" ", maxText-5), api.ErrSize, 0)
	refused(t, "x"+times(" ", maxText-1), api.ErrSyntax, 0)
	refused(t, "main{"+times(" ", maxText-5), api.ErrSyntax, maxText)
	parsed(t, "main{}"+times(" ", maxText-6), "program(block)")
	parsed(t, "main{}#"+times("\xff", maxText-7), "program(block)")
}

func TestFirstFault(t *testing.T) {
	faulty(t, "main { x @y; z w; }", api.ErrSyntax)
	faulty(t, "main { x=@; x=; } }", api.ErrSyntax)
	faulty(t, "class a { slot @1; slot 2; } main { } }", api.ErrSyntax)
	faulty(t, "class a { to f() { 1 @2; } } class", api.ErrSyntax)
	faulty(t, "main{}@"+times("{", 30), api.ErrSyntax)
	faulty(t, "main{x @y;"+nested("(", "1", ")", 30)+";}", api.ErrSyntax)
	faulty(t, "main{"+times("(", 19)+"@("+"1 2", api.ErrDeep)
	faulty(t, "main{"+times("x;", 700)+"@", api.ErrSyntax)
	faulty(t, "main{"+times("x;", 700)+"}@}", api.ErrSyntax)
	faulty(t, "main{"+times("x;", 700)+times("(", 19)+"@(", api.ErrDeep)
}

// TestDeepPlaces opens just as many places as there may be, and one more.
func TestDeepPlaces(t *testing.T) {
	for _, c := range [][2]string{{"fork{", "}"}, {"while(1){", "}"}, {"if(1){", "}else{}"}, {"if(1){}else{", "}"}} {
		// A condition's place has ended where the block's begins.
		taken(t, "main{"+nested(c[0], "x=1;", c[1], maxNest-1)+"}")
		taken(t, "class a{to f(){"+nested(c[0], "x;", c[1], maxNest-2)+"}}main{}")
	}
	faulty(t, "main{"+times("fork{", maxNest-1)+"fork@{", api.ErrDeep)
	faulty(t, "main{"+times("while(1){", maxNest-1)+"while@(", api.ErrDeep)
	faulty(t, "main{"+times("if(1){}else{", maxNest-1)+"if@(", api.ErrDeep)
	faulty(t, "class a{to f(){"+times("fork{", maxNest-2)+"fork@{", api.ErrDeep)
}

// TestDeepParentheses does so with parentheses, alone and in blocks.
func TestDeepParentheses(t *testing.T) {
	for _, c := range [][2]string{{"(", ")"}, {"-(", ")"}, {"a.f(", ")"}, {"a.f(b,", ",c)"}, {"1+(", ")"}, {"(1<", ")"}, {"(", ").f()"}} {
		deeper := strings.Replace(c[0], "(", "@(", 1)
		taken(t, "main{"+nested(c[0], "1", c[1], maxNest-1)+";}")
		faulty(t, "main{"+times(c[0], maxNest-1)+deeper+"1", api.ErrDeep)
		faulty(t, "main{x="+times(c[0], maxNest-1)+deeper, api.ErrDeep)
		taken(t, "main{print("+nested(c[0], "1", c[1], maxNest-2)+");}")
		faulty(t, "main{print("+times(c[0], maxNest-2)+deeper, api.ErrDeep)
		taken(t, "main{"+nested("fork{", "x="+nested(c[0], "1", c[1], 10)+";", "}", 9)+"}")
		faulty(t, "main{"+times("fork{", 9)+"x="+times(c[0], 10)+deeper, api.ErrDeep)
	}
}

// TestPlacesThatHaveEnded has more places than may be open at once, one behind
// the other.
func TestPlacesThatHaveEnded(t *testing.T) {
	taken(t, "main{"+times("(1);fork{}if((1)){}else{}a.f();", 30)+"}")
	taken(t, times("class a{to f(x){x=(1);}}", 30)+"main{}")
	taken(t, "main{"+nested("(", "a.f().f().f((1))+(1)", ")", maxNest-3)+";}")
	faulty(t, "main{"+times("(", maxNest-3)+"a.f((1)).f((@(", api.ErrDeep)
}

// TestDeepOrUnwanted opens places that the grammar does not want, where they
// would be too deep, too.
func TestDeepOrUnwanted(t *testing.T) {
	full := "main{" + times("(", maxNest-1)
	faulty(t, full+"1@(", api.ErrSyntax)
	faulty(t, full+"@{", api.ErrSyntax)
	faulty(t, full+"a.f@{", api.ErrSyntax)
	faulty(t, full+"a.f@(", api.ErrDeep)
	faulty(t, full+"new@(", api.ErrSyntax)
	faulty(t, full+"@)", api.ErrSyntax)
	faulty(t, full+"@", api.ErrSyntax)
	blocks := "main{" + times("fork{", maxNest-1)
	faulty(t, blocks+"@{", api.ErrSyntax)
	faulty(t, blocks+"fork@(", api.ErrSyntax)
	faulty(t, blocks+"fork@{", api.ErrDeep)
	faulty(t, blocks+"print@(", api.ErrDeep)
	faulty(t, blocks+"print@{", api.ErrSyntax)
	faulty(t, blocks+"x@(", api.ErrSyntax)
	faulty(t, blocks+"if@(", api.ErrDeep)
	faulty(t, blocks+"swap@(", api.ErrDeep)
	taken(t, blocks+"x=y;"+times("}", maxNest))
}

// many counts the nodes of n.
func many(n api.Node) int {
	all := 1
	for _, kid := range n.Kids {
		all += many(kid)
	}
	return all
}

// filled answers a text of so many nodes: what is ahead of main has some.
func filled(ahead string, some, nodes int) string {
	left := nodes - some - 2
	return ahead + "main{" + times("x;", left/2-1) + times("-", left%2) + "x;}"
}

func TestHowManyNodes(t *testing.T) {
	for _, c := range []struct {
		ahead string
		some  int
	}{
		{"", 0}, {"class a{}", 1}, {"class a:b{}", 2}, {"class a{slot x;slot y;}", 3}, {"class a{to f(){}}", 3},
		{"class a{to f(x,y){}to f(){}}", 7}, {"class a{to f(){x=1+2;}}", 7}, {"class a{to f(){var x=(((1)));}}", 5},
		{"class a{to f(){if(a<b){}else{}while(1){}}}", 12}, {"class a{to f(){return x.f(-1,!2);}}", 10},
		{"class a{to f(){print(1);wait(2);signal(3);swap(4,5);fork{}}}", 14},
		{"class a{to f(){x=nil==self;gate.f(new a-7*8);}}", 15},
		{times("class a{slot x;}", 100) + times("class a{to f(x){}}", 50), 400},
	} {
		for nodes := maxNodes - 2; nodes <= maxNodes; nodes++ {
			if n := taken(t, filled(c.ahead, c.some, nodes)); many(n) != nodes {
				t.Errorf("%q: %d nodes, want %d", short(c.ahead), many(n), nodes)
			}
		}
		for nodes := maxNodes + 1; nodes <= maxNodes+3; nodes++ {
			refused(t, filled(c.ahead, c.some, nodes), api.ErrSize, 0)
		}
	}
	refused(t, "main{"+times("-", maxText-9)+"x;}", api.ErrSize, 0)
	refused(t, "main{x"+times("+x", maxText/2-9)+";}", api.ErrSize, 0)
	refused(t, "main{x"+times(".f()", 800)+";}", api.ErrSize, 0)
	refused(t, times("class a:b{}", 300)+"main{}", api.ErrSize, 0)
	taken(t, times("class a:b{}", 299)+"main{}")
}

// TestLongPrints has texts that Parse takes, whose prints it does not.
func TestLongPrints(t *testing.T) {
	for _, text := range []string{
		"main{" + times("print(1);", 299) + "}",
		"main{" + times("a", maxText-7) + ";}",
		times("class aaaaaaa:a{slot bbb;}", 150) + "main{}",
	} {
		n := taken(t, text)
		want := strings.NewReplacer("{", " { ", "}", " } ", "(", " ( ", ")", " ) ", ";", " ; ", ":", " : ").Replace(text)
		want = strings.Join(strings.Fields(want), " ") + "\n"
		if len(want) <= maxText {
			t.Errorf("%q is not long", short(want))
		}
		printed(t, n, want)
		refused(t, want, api.ErrSize, 0)
	}
}

// TestNodesOfTextsThatAreTooLong has nodes whose shortest text is just as long
// as one may be, and one byte longer: that is the node of no text.
func TestNodesOfTextsThatAreTooLong(t *testing.T) {
	for _, text := range []string{
		"main{@;}", "main{@=b;}", "main{var @=1;}", "main{return @;}", "main{return-@;}", "main{new @.f(1);}", "main{(@+b).f(-1,!2);}",
		"class @{}main{}", "class c:@{slot b;to f(){}to g(x,y){}}main{if(1){}else{}while(x<y){}}", "main{print(@==1);swap(a,7);fork{}}",
		"main{return nil;return self;return gate;return 12;@.b(self);}", "main{-a--b*!@;}", "class a{slot @;}main{}", "class a{to @(){}}main{}",
		"class a{to f(x,@){}}main{}", "main{a.@(1);}",
	} {
		whole := strings.Replace(text, "@", times("x", maxText-len(text)+1), 1)
		n, f := Parse(whole)
		if f != (api.Fault{}) {
			t.Errorf("%q: %v", text, f)
			continue
		}
		if s, f := Print(n); f != (api.Fault{}) || len(s) <= maxText {
			t.Errorf("%q: Print: %d bytes %v", text, len(s), f)
		}
		if s, f := Shortest(n); f != (api.Fault{}) || s != whole {
			t.Errorf("%q: Shortest: %d bytes %v", text, len(s), f)
		}
		unprinted(t, longer(n))
	}
}

// longer answers n with one byte more in its first long name.
func longer(n api.Node) api.Node {
	if len(n.Text) > 100 {
		n.Text += "x"
		return n
	}
	n.Kids = slices.Clone(n.Kids)
	for i := range n.Kids {
		n.Kids[i] = longer(n.Kids[i])
	}
	return n
}

// TestNodesThatGoOn has nodes in which the same ones stand again and again.
func TestNodesThatGoOn(t *testing.T) {
	deep, wide := api.Node{Kind: api.NName, Text: "x"}, api.Node{Kind: api.NName, Text: "x"}
	for range 1 << 16 {
		deep = api.Node{Kind: api.NNeg, Kids: []api.Node{deep}}
	}
	for range 60 {
		wide = api.Node{Kind: api.NAdd, Kids: []api.Node{wide, wide}}
	}
	round := api.Node{Kind: api.NNot, Kids: make([]api.Node, 1)}
	round.Kids[0] = round
	for _, n := range []api.Node{deep, wide, round} {
		unprinted(t, n)
		unprinted(t, inMain(api.Node{Kind: api.NDo, Kids: []api.Node{n}}))
	}
	row := make([]api.Node, 1<<20)
	for kind := range 40 {
		unprinted(t, api.Node{Kind: kind, Kids: row})
		unprinted(t, api.Node{Kind: kind, Num: 1 << 40, Kids: make([]api.Node, 10)})
		unprinted(t, api.Node{Kind: kind, Num: -1 << 40, Kids: make([]api.Node, 10)})
	}
	huge := api.Node{Kind: api.NName, Text: times("x", 1<<24)}
	sum := huge
	for range 290 {
		sum = api.Node{Kind: api.NAdd, Kids: []api.Node{sum, huge}}
	}
	unprinted(t, inMain(api.Node{Kind: api.NDo, Kids: []api.Node{sum}}))
}

// TestNodesOfNoText has, in each row, one thing that is not as it has to be.
func TestNodesOfNoText(t *testing.T) {
	type kids = []api.Node
	x, block := api.Node{Kind: api.NName, Text: "x"}, api.Node{Kind: api.NBlock}
	unprinted(t, api.Node{})
	unprinted(t, x)
	unprinted(t, block)
	unprinted(t, api.Node{Kind: api.NProgram})
	printed(t, api.Node{Kind: api.NProgram, Kids: kids{block}}, "main { }\n")
	for _, n := range []api.Node{
		{Kids: kids{block}}, {Kind: -1, Kids: kids{block}}, {Kind: 32, Kids: kids{block}}, {Kind: 1, Text: "x", Kids: kids{block}},
		{Kind: 1, Num: 1, Kids: kids{block}}, {Kind: 1, Kids: kids{block, block}}, {Kind: 1, Kids: kids{x}}, {Kind: 1, Kids: kids{{}}},
		{Kind: 1, Kids: kids{block, {Kind: api.NClass, Text: "a"}}}, {Kind: 1, Kids: kids{{Kind: api.NClass, Text: "a"}}},
		{Kind: 1, Kids: kids{{Kind: api.NBlock, Text: "x"}}}, {Kind: 1, Kids: kids{{Kind: api.NBlock, Num: -1}}},
	} {
		unprinted(t, n)
	}
	inClass := func(all ...api.Node) api.Node {
		return api.Node{Kind: api.NProgram, Kids: kids{{Kind: api.NClass, Text: "a", Kids: all}, block}}
	}
	slot, method := api.Node{Kind: api.NSlot, Text: "s"}, api.Node{Kind: api.NMethod, Text: "m", Kids: kids{block}}
	printed(t, inClass(x, slot, method), "class a : x { slot s ; to m ( ) { } } main { }\n")
	for _, all := range []kids{
		{slot, x}, {x, x}, {method, slot}, {block}, {slot, block}, {{Kind: api.NNumber}}, {{Kind: api.NName}}, {{Kind: api.NName, Text: "new"}},
		{{Kind: api.NName, Text: "a{"}}, {{Kind: api.NName, Text: "x", Num: 1}}, {{Kind: api.NName, Text: "x", Kids: kids{x}}}, {{Kind: api.NArg, Text: "x"}},
		{{Kind: api.NSlot}}, {{Kind: api.NSlot, Text: "1"}}, {{Kind: api.NSlot, Text: "slot"}}, {{Kind: api.NSlot, Text: "s", Num: 1}},
		{{Kind: api.NSlot, Text: "s", Kids: kids{x}}}, {{Kind: api.NMethod, Text: "m"}}, {{Kind: api.NMethod, Kids: kids{block}}},
		{{Kind: api.NMethod, Text: "m", Num: 1, Kids: kids{block}}}, {{Kind: api.NMethod, Text: "m", Num: -1, Kids: kids{block}}},
		{{Kind: api.NMethod, Text: "m", Num: 1, Kids: kids{x, block}}}, {{Kind: api.NMethod, Text: "m", Kids: kids{{Kind: api.NArg, Text: "x"}, block}}},
		{{Kind: api.NMethod, Text: "m", Num: 2, Kids: kids{{Kind: api.NArg, Text: "x"}, block}}},
		{{Kind: api.NMethod, Text: "m", Num: 1, Kids: kids{{Kind: api.NArg, Text: "x"}}}},
		{{Kind: api.NMethod, Text: "m", Num: 1, Kids: kids{{Kind: api.NArg, Text: "to"}, block}}},
		{{Kind: api.NMethod, Text: "m", Kids: kids{block, block}}},
	} {
		unprinted(t, inClass(all...))
	}
	for _, name := range []string{"", " ", "a b", " a", "a ", "1", "1a", "a-b", "é", "a\x00", "if", "self", "a#", "a\n", "a;", "(a)", "class", "gate"} {
		unprinted(t, inMain(api.Node{Kind: api.NVar, Text: name, Kids: kids{x}}))
		unprinted(t, inMain(api.Node{Kind: api.NDo, Kids: kids{{Kind: api.NName, Text: name}}}))
		unprinted(t, inMain(api.Node{Kind: api.NDo, Kids: kids{{Kind: api.NNew, Text: name}}}))
		unprinted(t, inMain(api.Node{Kind: api.NDo, Kids: kids{{Kind: api.NCall, Text: name, Kids: kids{x}}}}))
	}
	for _, n := range []int{-1, -7, most + 1, -most, 1 << 31, 1 << 62, -1 << 63} {
		unprinted(t, inMain(api.Node{Kind: api.NDo, Kids: kids{{Kind: api.NNumber, Num: n}}}))
	}
}

// TestHowManyKids gives each kind of statements and expressions each number of
// kids, and things that are zero in them.
func TestHowManyKids(t *testing.T) {
	x, block := api.Node{Kind: api.NName, Text: "x"}, api.Node{Kind: api.NBlock}
	row := []api.Node{x, x, x, x}
	named := []int{api.NVar, api.NSet, api.NCall, api.NNew, api.NName}
	for kind := api.NVar; kind <= api.NName; kind++ {
		for many := range 5 {
			n := api.Node{Kind: kind, Kids: slices.Clone(row[:many])}
			if slices.Contains(named, kind) {
				n.Text = "x"
			}
			if slices.Contains([]int{api.NIf, api.NWhile}, kind) {
				for i := 1; i < many; i++ {
					n.Kids[i] = block
				}
			}
			if kind == api.NFork && many > 0 {
				n.Kids[0] = block
			}
			held(t, n, many)
			more := n
			more.Num = 1
			if kind != api.NNumber {
				unprinted(t, stood(more))
			}
			more = n
			more.Text = map[string]string{"": "x", "x": ""}[n.Text]
			unprinted(t, stood(more))
		}
	}
}

// held asks that n, which has so many kids, is printed if that is right.
func held(t *testing.T, n api.Node, many int) {
	t.Helper()
	right := many == 1
	switch {
	case n.Kind == api.NIf:
		right = many == 2 || many == 3
	case n.Kind == api.NWhile || n.Kind == api.NSwap || n.Kind >= api.NLess && n.Kind <= api.NMul:
		right = many == 2
	case n.Kind == api.NCall:
		right = many > 0
	case n.Kind >= api.NNumber:
		right = many == 0
	}
	if _, f := Print(stood(n)); (f == api.Fault{}) != right {
		t.Errorf("%s: %v", shown(n), f)
	}
}

// stood answers a program in which n stands, as a statement or in one.
func stood(n api.Node) api.Node {
	if n.Kind >= api.NLess {
		n = api.Node{Kind: api.NDo, Kids: []api.Node{n}}
	}
	return inMain(n)
}

// inMain answers the program of those statements.
func inMain(statements ...api.Node) api.Node {
	return api.Node{Kind: api.NProgram, Kids: []api.Node{{Kind: api.NBlock, Kids: statements}}}
}

// TestDeepNodes has nodes that need just as many places as there may be, and
// one more.
func TestDeepNodes(t *testing.T) {
	name := api.Node{Kind: api.NName, Text: "x"}
	wrap := func(n api.Node, kind, many int, ahead ...api.Node) api.Node {
		for range many {
			n = api.Node{Kind: kind, Kids: append(slices.Clone(ahead), n)}
		}
		return n
	}
	do := func(n api.Node) api.Node { return inMain(api.Node{Kind: api.NDo, Kids: []api.Node{n}}) }
	print := func(n api.Node) api.Node { return inMain(api.Node{Kind: api.NPrint, Kids: []api.Node{n}}) }
	sum := func(many int) api.Node { return wrap(wrap(name, api.NAdd, 1, name), api.NAdd, many, name) }
	printed(t, do(sum(19)), "main { "+times("x + ( ", 19)+"x + x "+times(") ", 19)+"; }\n")
	unprinted(t, do(sum(20)))
	printed(t, print(sum(18)), "main { print ( "+times("x + ( ", 18)+"x + x "+times(") ", 18)+") ; }\n")
	unprinted(t, print(sum(19)))
	forks := func(many int) api.Node {
		n := inMain()
		for range many {
			n = inMain(api.Node{Kind: api.NFork, Kids: n.Kids})
		}
		return n
	}
	printed(t, forks(19), "main { "+times("fork { ", 19)+times("} ", 19)+"}\n")
	unprinted(t, forks(20))
	// These need no place at all.
	printed(t, do(wrap(name, api.NNot, 596)), "main { "+times("! ", 596)+"x ; }\n")
	unprinted(t, do(wrap(name, api.NNot, 597)))
}

// lists answers all lists of n.
func lists(n api.Node) [][]api.Node {
	all := [][]api.Node{n.Kids}
	for _, kid := range n.Kids {
		all = append(all, lists(kid)...)
	}
	return all
}

// texts answers all texts of n.
func texts(n api.Node) []string {
	all := []string{n.Text}
	for _, kid := range n.Kids {
		all = append(all, texts(kid)...)
	}
	return all
}

// rich is a text in which everything stands.
const rich = "class aaa { } class bbb : aaa { slot sss; slot ttt; to fff(xxx, yyy) { return xxx.fff(yyy, 1) + 2 * -3; } to ggg() { } } " +
	"main { var vvv = new bbb; vvv = nil; if (vvv == self) { } else { vvv; } while (1 < !2) { print(gate); } " +
	"fork { wait(vvv); signal(vvv); swap(vvv, vvv.ggg().hhh(1, 2, 3) - 4); } }"

// TestAnswersStandOnTheirOwn asks that no name of a node lies in the text, and
// that no two lists of it share memory.
func TestAnswersStandOnTheirOwn(t *testing.T) {
	text := strings.Clone(rich)
	first := uintptr(unsafe.Pointer(unsafe.StringData(text)))
	n := taken(t, text)
	for _, s := range texts(n) {
		at := uintptr(unsafe.Pointer(unsafe.StringData(s)))
		if first <= at && at < first+uintptr(len(text)) {
			t.Errorf("%q stands in the text", s)
		}
	}
	seen := map[*api.Node]int{}
	for _, list := range lists(n) {
		for i := range list[:cap(list)] {
			seen[&list[:cap(list)][i]]++
		}
	}
	for _, times := range seen {
		if times > 1 {
			t.Fatal("two lists share memory")
		}
	}
	name := api.Node{Kind: api.NName, Text: times("x", 50)}
	s, _ := Print(inMain(api.Node{Kind: api.NDo, Kids: []api.Node{name}}))
	if i := strings.Index(s, name.Text); i < 0 || unsafe.StringData(s[i:]) == unsafe.StringData(name.Text) {
		t.Errorf("%q", s)
	}
}

// guarded answers n with lists that have more behind their length, which is
// not to be touched.
func guarded(n api.Node) api.Node {
	list := make([]api.Node, 0, len(n.Kids)+2)
	for _, kid := range n.Kids {
		list = append(list, guarded(kid))
	}
	full := append(list, api.Node{Kind: 99, Text: "guard"}, api.Node{Kind: 98, Num: 7})
	n.Kids = full[:len(list)]
	return n
}

// TestNothingIsTouched asks that Print changes nothing of what it is given, and
// neither reads nor writes what lies behind a list's length.
func TestNothingIsTouched(t *testing.T) {
	n := taken(t, rich)
	g := guarded(n)
	want, _ := Print(n)
	printed(t, g, want)
	for _, list := range lists(g) {
		behind := list[len(list):cap(list)]
		if shown(behind[0]) != "99:guard" || shown(behind[1]) != "98#7" {
			t.Errorf("behind a list: %v", behind)
		}
	}
	if shown(g) != shown(n) {
		t.Error(shown(g))
	}
	again, _ := Parse(rich)
	for _, list := range lists(again) {
		for i := range list {
			list[i] = api.Node{Kind: 99}
		}
	}
	parsed(t, rich, shown(n))
}
