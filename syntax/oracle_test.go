package syntax

import (
	"regexp"
	"slices"
	"strconv"
	"strings"
	"testing"

	"gesso/api"
	"gesso/lex"
)

// grammar is that of the document, a row a line: what begins with $ is a row,
// NAME and DECIMAL are tokens of their kinds, all else are tokens; ways are
// parted by |.
const grammar = `
$program   $classes main $block
$classes   | $class $classes
$class     class NAME $over { $slots $methods }
$over      | : NAME
$slots     | $slot $slots
$slot      slot NAME ;
$methods   | $method $methods
$method    to NAME ( $names ) $block
$names     | NAME $more
$more      | , NAME $more
$block     { $rest }
$rest      | $statement $rest
$statement var NAME = $expr ; | NAME = $expr ; | if ( $expr ) $block $else | while ( $expr ) $block | return $expr ; | print ( $expr ) ; | fork $block | wait ( $expr ) ; | signal ( $expr ) ; | swap ( $expr , $expr ) ; | $expr ;
$else      | else $block
$expr      $sum | $sum < $sum | $sum == $sum
$sum       $term | $sum + $term | $sum - $term
$term      $unary | $term * $unary
$unary     - $unary | ! $unary | $call
$call      $primary | $call . NAME ( $exprs )
$exprs     | $expr $others
$others    | , $expr $others
$primary   DECIMAL | nil | self | gate | new NAME | NAME | ( $expr )
`

// rule is one way of a row.
type rule struct {
	row   string
	parts []string
}

// rules reads the grammar.
func rules() []rule {
	var all []rule
	for _, line := range strings.Split(strings.TrimSpace(grammar), "\n") {
		row, ways, _ := strings.Cut(line, " ")
		for _, way := range strings.Split(ways, "|") {
			all = append(all, rule{row, strings.Fields(way)})
		}
	}
	return all
}

// state is a rule, how far one is in it, and at which token it began.
type state struct{ rule, done, from int }

// recogniser knows, token by token, all that the grammar may be at.
type recogniser struct {
	rules []rule
	sets  [][]state
}

// close adds to the last set all that follows from what is in it.
func (r *recogniser) close() {
	last := len(r.sets) - 1
	seen := map[state]int{}
	add := func(s state) {
		if seen[s] == 0 {
			seen[s] = 1
			r.sets[last] = append(r.sets[last], s)
		}
	}
	old := r.sets[last]
	r.sets[last] = nil
	for _, s := range old {
		add(s)
	}
	for grown := true; grown; {
		before := len(r.sets[last])
		for i := 0; i < len(r.sets[last]); i++ {
			s := r.sets[last][i]
			if parts := r.rules[s.rule].parts; s.done < len(parts) {
				for k, x := range r.rules {
					if x.row == parts[s.done] {
						add(state{k, 0, last})
					}
				}
				continue
			}
			for _, b := range slices.Clone(r.sets[s.from]) {
				if parts := r.rules[b.rule].parts; b.done < len(parts) && parts[b.done] == r.rules[s.rule].row {
					add(state{b.rule, b.done + 1, b.from})
				}
			}
		}
		// What has ended in no token at all may be waited for by what came later.
		grown = len(r.sets[last]) > before
	}
}

// takes goes past a token, if the grammar may want it.
func (r *recogniser) takes(token string) bool {
	var next []state
	for _, s := range r.sets[len(r.sets)-1] {
		if parts := r.rules[s.rule].parts; s.done < len(parts) && parts[s.done] == token {
			next = append(next, state{s.rule, s.done + 1, s.from})
		}
	}
	if len(next) == 0 {
		return false
	}
	r.sets = append(r.sets, next)
	r.close()
	return true
}

// saidFault is the fault of I2 said over again, but for ErrSize.
func saidFault(all []rule, text string) api.Fault {
	tokens, f := lex.Scan(text)
	if f != (api.Fault{}) {
		return f
	}
	r := &recogniser{rules: all, sets: [][]state{{{0, 0, 0}}}}
	r.close()
	deep := 0
	for _, x := range tokens {
		symbol := x.Text
		if x.Kind == api.TokName {
			symbol = "NAME"
		}
		if x.Kind == api.TokNumber {
			symbol = "DECIMAL"
		}
		if !r.takes(symbol) {
			return api.Fault{Code: api.ErrSyntax, At: x.At}
		}
		deep += strings.Count("{(", x.Text) - strings.Count("})", x.Text)
		if deep > maxNest {
			return api.Fault{Code: api.ErrDeep, At: x.At}
		}
	}
	if slices.Contains(r.sets[len(r.sets)-1], state{0, len(all[0].parts), 0}) {
		return api.Fault{}
	}
	return api.Fault{Code: api.ErrSyntax, At: len(text)}
}

// dice throws numbers, the same ones in each run.
type dice uint64

func (d *dice) throw(n int) int {
	*d = *d*6364136223846793005 + 1442695040888963407
	return int(uint64(*d) >> 33 % uint64(n))
}

// one answers one of those texts, parted by blanks.
func (d *dice) one(texts string) string {
	all := strings.Fields(texts)
	return all[d.throw(len(all))]
}

func (d *dice) name() string { return d.one("a b c x y zz f g _1 A to_") }

// expr throws an expression that is at most so high.
func (d *dice) expr(high int) api.Node {
	kind := api.NLess + d.throw(api.NName-api.NLess+1)
	if high == 0 {
		kind = api.NNumber + d.throw(api.NName-api.NNumber+1)
	}
	n := api.Node{Kind: kind}
	switch {
	case kind <= api.NMul:
		n.Kids = []api.Node{d.expr(high - 1), d.expr(high - 1)}
	case kind <= api.NNot:
		n.Kids = []api.Node{d.expr(high - 1)}
	case kind == api.NCall:
		n.Text = d.name()
		n.Kids = d.some(1, 4, func() api.Node { return d.expr(high - 1) })
	case kind == api.NNumber:
		n.Num = []int{0, 1, 7, 10, most}[d.throw(5)]
	case kind >= api.NNew:
		n.Text = d.name()
	}
	return n
}

// some throws as many nodes, from least to below bound.
func (d *dice) some(least, bound int, one func() api.Node) []api.Node {
	var all []api.Node
	for range least + d.throw(bound-least) {
		all = append(all, one())
	}
	return all
}

func (d *dice) block(high int) api.Node {
	return api.Node{Kind: api.NBlock, Kids: d.some(0, 4, func() api.Node { return d.statement(high - 1) })}
}

// statement throws one that has blocks in it, unless it is as high as it may be.
func (d *dice) statement(high int) api.Node {
	n := api.Node{Kind: api.NVar + d.throw(api.NDo-api.NVar+1)}
	e := d.expr(2)
	switch n.Kind {
	case api.NIf, api.NWhile, api.NFork:
		if high <= 0 {
			return api.Node{Kind: api.NDo, Kids: []api.Node{e}}
		}
		n.Kids = []api.Node{e, d.block(high)}
		if n.Kind == api.NFork {
			n.Kids = n.Kids[1:]
		}
		if n.Kind == api.NIf && d.throw(2) == 0 {
			n.Kids = append(n.Kids, d.block(high))
		}
	case api.NSwap:
		n.Kids = []api.Node{e, d.expr(2)}
	case api.NVar, api.NSet:
		n.Text, n.Kids = d.name(), []api.Node{e}
	default:
		n.Kids = []api.Node{e}
	}
	return n
}

func (d *dice) class() api.Node {
	n := api.Node{Kind: api.NClass, Text: d.name()}
	if d.throw(2) == 0 {
		n.Kids = append(n.Kids, api.Node{Kind: api.NName, Text: d.name()})
	}
	n.Kids = append(n.Kids, d.some(0, 3, func() api.Node { return api.Node{Kind: api.NSlot, Text: d.name()} })...)
	n.Kids = append(n.Kids, d.some(0, 3, func() api.Node {
		m := api.Node{Kind: api.NMethod, Text: d.name()}
		m.Kids = d.some(0, 4, func() api.Node { return api.Node{Kind: api.NArg, Text: d.name()} })
		m.Num = len(m.Kids)
		m.Kids = append(m.Kids, d.block(2))
		return m
	})...)
	return n
}

func (d *dice) program() api.Node {
	return api.Node{Kind: api.NProgram, Kids: append(d.some(0, 3, d.class), d.block(3))}
}

// loose answers the tokens of an expression, all that is in it in parentheses,
// where that is needed or not.
func (d *dice) loose(n api.Node) string {
	sure := func(kid api.Node) string {
		s := d.loose(kid)
		if kid.Kind < api.NNumber || d.throw(4) == 0 {
			s = "( " + s + " )"
		}
		return s
	}
	switch n.Kind {
	case api.NNeg, api.NNot:
		return []string{"-", "!"}[n.Kind-api.NNeg] + " " + sure(n.Kids[0])
	case api.NCall:
		var all []string
		for _, kid := range n.Kids[1:] {
			all = append(all, d.loose(kid))
		}
		return sure(n.Kids[0]) + " . " + n.Text + " ( " + strings.Join(all, " , ") + " )"
	case api.NLess, api.NSame, api.NAdd, api.NSub, api.NMul:
		return sure(n.Kids[0]) + " " + strings.Fields("< == + - *")[n.Kind-api.NLess] + " " + sure(n.Kids[1])
	}
	if n.Kind == api.NNumber {
		return strconv.Itoa(n.Num)
	}
	return []string{"nil", "self", "gate", "new ", ""}[n.Kind-api.NNil] + n.Text
}

func mustPrint(n api.Node) string {
	s, f := Print(n)
	if f != (api.Fault{}) {
		panic(shown(n))
	}
	return s
}

// TestLooseExpressions asks that what is in parentheses everywhere is the node
// that it says, and that its print is that, too.
func TestLooseExpressions(t *testing.T) {
	d := dice(9)
	for range 5000 {
		e := d.expr(1 + d.throw(4))
		n := inMain(api.Node{Kind: api.NDo, Kids: []api.Node{e}})
		text := "main{" + d.loose(e) + ";}"
		if got, f := Parse(text); f != (api.Fault{}) || shown(got) != shown(n) {
			t.Fatalf("%q: %s %v, want %s", text, shown(got), f, shown(n))
		}
		if got, f := Parse(mustPrint(n)); f != (api.Fault{}) || shown(got) != shown(n) {
			t.Fatalf("%q: %s %v, want %s", mustPrint(n), shown(got), f, shown(n))
		}
	}
}

// without answers those tokens without two of them.
func without(tokens []string, one, other int) string {
	all := slices.Concat(tokens[:one], tokens[one+1:other], tokens[other+1:])
	return strings.Join(all, " ")
}

// TestNoParenthesesTooMany takes each two that belong together out of prints:
// what is left is not the same node.
func TestNoParenthesesTooMany(t *testing.T) {
	d := dice(99)
	for range 1500 {
		n := inMain(api.Node{Kind: api.NDo, Kids: []api.Node{d.expr(1 + d.throw(4))}})
		tokens := strings.Fields(mustPrint(n))
		var open []int
		for i, token := range tokens {
			if token == "(" {
				open = append(open, i)
			}
			if token != ")" {
				continue
			}
			text := without(tokens, open[len(open)-1], i)
			open = open[:len(open)-1]
			if got, f := Parse(text); f == (api.Fault{}) && shown(got) == shown(n) {
				t.Fatalf("%q is %q", mustPrint(n), text)
			}
		}
	}
}

// TestParseOfPrint is I4, of programs of all kinds; and prints are one line,
// with one blank between each two tokens.
func TestParseOfPrint(t *testing.T) {
	d := dice(999)
	taken := 0
	for range 3000 {
		n := d.program()
		text, f := Print(n)
		if many(n) > maxNodes {
			if f != (api.Fault{Code: api.ErrForm}) || text != "" {
				t.Fatalf("%d nodes: %v", many(n), f)
			}
			continue
		}
		if f != (api.Fault{}) || text != strings.Join(strings.Fields(text), " ")+"\n" {
			t.Fatalf("%s: %q %v", shown(n), text, f)
		}
		shortened(t, n, text)
		if len(text) > maxText {
			continue
		}
		taken++
		if got, f := Parse(text); f != (api.Fault{}) || shown(got) != shown(n) {
			t.Fatalf("%q: %s %v, want %s", text, shown(got), f, shown(n))
		}
		tokens, _ := lex.Scan(text)
		var all []string
		for _, x := range tokens {
			all = append(all, x.Text)
		}
		if strings.Join(all, " ")+"\n" != text {
			t.Fatalf("%q", text)
		}
	}
	if taken < 2000 {
		t.Error(taken)
	}
}

// spoilt answers tokens of which some are others, are gone, or are twice there.
func (d *dice) spoilt(tokens []string) []string {
	tokens = slices.Clone(tokens)
	for range d.throw(3) {
		i := d.throw(len(tokens))
		other := d.one("class to slot main var if else while return print fork wait signal swap new gate nil self " +
			"== + - * < = ! . , ; : ( ) { } x y 1 0 ( ) { } ; x =")
		switch d.throw(5) {
		case 0:
			tokens[i] = other
		case 1:
			tokens = slices.Insert(tokens, i, other)
		case 2:
			tokens = slices.Delete(tokens, i, min(i+1, len(tokens)))
		case 3:
			tokens = tokens[:i]
		case 4:
			tokens = slices.Insert(tokens, i, tokens[i])
		}
		if len(tokens) == 0 {
			break
		}
	}
	return tokens
}

// agreed asks that Parse answers the fault that is said over again, or a node,
// and answers the code.
func agreed(t *testing.T, all []rule, text string) api.Errno {
	t.Helper()
	got, f := Parse(text)
	if want := saidFault(all, text); f != want || isZero(got) != (f.Code != api.OK) {
		t.Fatalf("%q: %s %v, want %v", text, shown(got), f, want)
	}
	return f.Code
}

// TestFaultsSaidOverAgain spoils programs, and asks for the first fault.
func TestFaultsSaidOverAgain(t *testing.T) {
	all := rules()
	gaps := []string{" ", "\n", "\t", " # (\n", "   "}
	d := dice(9999)
	codes := map[api.Errno]int{}
	for range 4000 {
		n := api.Node{Kind: api.NProgram, Kids: append(d.some(0, 2, d.class), d.block(2))}
		tokens := strings.Fields(mustPrint(n))
		if len(tokens) > 120 {
			continue
		}
		codes[agreed(t, all, strings.Join(d.spoilt(tokens), gaps[d.throw(len(gaps))]))]++
	}
	if codes[api.OK] < 500 || codes[api.ErrSyntax] < 500 {
		t.Error(codes)
	}
}

// TestRowsOfTokens has rows of any tokens, behind beginnings of programs.
func TestRowsOfTokens(t *testing.T) {
	all := rules()
	tokens := strings.Fields("class to slot main var if else while return print fork wait signal swap new gate nil self " +
		"== + - * < = ! . , ; : ( ) { } x 1")
	fronts := []string{"", "main", "main { ", "class", "class a", "class a : b {", "class a { slot x ;", "class a { to f (", "class a { to f ( x",
		"class a { to f ( ) {", "class a { to f ( ) { } ", "class a { }", "main { x", "main { x = 1", "main { 1 <", "main { if ( 1 ) { }", "main { a . f (",
		"main { a . f ( )", "main { return ( x", "main { - ", "main { }", "main { if", "main { swap ( 1", "main { new", "main { print ( 1 )", "main { x . "}
	for _, front := range fronts {
		for _, one := range tokens {
			for _, two := range tokens {
				agreed(t, all, front+" "+one+" "+two)
			}
		}
	}
}

// TestDeepRowsOfTokens opens more places than it closes.
func TestDeepRowsOfTokens(t *testing.T) {
	all := rules()
	d := dice(99999)
	codes := map[api.Errno]int{}
	for range 600 {
		text := "main {"
		for range 10 + d.throw(30) {
			text += []string{" fork {", " fork {", " while ( 1 ) {", " if ( 1 ) { } else {", " x ;", " fork { }", " }"}[d.throw(7)]
		}
		for range d.throw(30) {
			text += []string{" (", " (", " a . f (", " ( - (", " 1 +", " - (", " a . f ( ) .f ("}[d.throw(7)]
		}
		codes[agreed(t, all, text)]++
	}
	if codes[api.ErrDeep] < 100 || codes[api.ErrSyntax] < 100 {
		t.Error(codes)
	}
}

func TestTextsOfBytes(t *testing.T) {
	all := rules()
	few := "main{}(){}x=1;.,-!<+* \nclass a:nil"
	d := dice(7)
	for range 3000 {
		b := []byte([]string{"", "main{", "main{x=", "class a{"}[d.throw(4)])
		for range d.throw(15) {
			b = append(b, few[d.throw(len(few))])
			if d.throw(60) == 0 {
				b = append(b, byte(d.throw(256)))
			}
		}
		agreed(t, all, string(b))
	}
}

// forms are, of each kind, which kids a node may have: c is a class, s a slot, m
// a method, a an arg, b a block, t a statement, n a name, e another expression.
var forms = map[int]string{
	api.NProgram: "c*b", api.NClass: "n?s*m*", api.NSlot: "", api.NMethod: "a*b", api.NArg: "", api.NBlock: "t*", api.NVar: "[en]", api.NSet: "[en]",
	api.NIf: "[en]bb?", api.NWhile: "[en]b", api.NReturn: "[en]", api.NPrint: "[en]", api.NFork: "b", api.NWait: "[en]", api.NSignal: "[en]",
	api.NSwap: "[en][en]", api.NDo: "[en]", api.NLess: "[en][en]", api.NSame: "[en][en]", api.NAdd: "[en][en]", api.NSub: "[en][en]",
	api.NMul: "[en][en]", api.NNeg: "[en]", api.NNot: "[en]", api.NCall: "[en][en]*", api.NNumber: "", api.NNil: "", api.NSelf: "", api.NGate: "",
	api.NNew: "", api.NName: "",
}

// letters are those of the kinds, in their order.
const letters = "pcsmabttttttttttteeeeeeeeeeeeen"

var (
	anyName = regexp.MustCompile(`^[A-Za-z_][A-Za-z0-9_]*$`)
	anyWord = regexp.MustCompile(`^(class|to|slot|main|var|if|else|while|return|print|fork|wait|signal|swap|new|gate|nil|self)$`)
)

// fits tells whether n may stand in a program, as far as its form goes.
func fits(n api.Node) bool {
	form, is := forms[n.Kind]
	if !is {
		return false
	}
	kids := ""
	for _, kid := range n.Kids {
		if kid.Kind < 1 || kid.Kind > len(letters) || !fits(kid) {
			return false
		}
		kids += letters[kid.Kind-1 : kid.Kind]
	}
	named := slices.Contains([]int{api.NClass, api.NSlot, api.NMethod, api.NArg, api.NVar, api.NSet, api.NCall, api.NNew, api.NName}, n.Kind)
	text := n.Text == ""
	if named {
		text = anyName.MatchString(n.Text) && !anyWord.MatchString(n.Text)
	}
	number := n.Num == 0
	if n.Kind == api.NNumber {
		number = n.Num >= 0 && n.Num <= most
	}
	if n.Kind == api.NMethod {
		number = n.Num == strings.Count(kids, "a")
	}
	return text && number && regexp.MustCompile("^("+form+")$").MatchString(kids)
}

// twisted answers n with something else somewhere in it.
func (d *dice) twisted(n api.Node) api.Node {
	n.Kids = slices.Clone(n.Kids)
	if len(n.Kids) > 0 && d.throw(4) > 0 {
		i := d.throw(len(n.Kids))
		n.Kids[i] = d.twisted(n.Kids[i])
		return n
	}
	names := []string{"", "x", "if", "nil", "a b", "1", "a1", "a;", " a", "a ", "é", "main", "=", "a#", "new a", "-", "a\n", "x\x00"}
	switch d.throw(8) {
	case 0:
		n.Kind = d.throw(34) - 1
	case 1:
		n.Text = names[d.throw(len(names))]
	case 2:
		n.Num = []int{0, 1, 2, -1, most, most + 1, -most, 1 << 40, -1 << 62}[d.throw(9)]
	case 3:
		n.Kids = append(n.Kids, d.expr(1))
	case 4:
		n.Kids = append(n.Kids, d.block(1))
	case 5:
		n.Kids = n.Kids[:d.throw(len(n.Kids)+1)]
	case 6:
		n.Kids = slices.Insert(n.Kids, d.throw(len(n.Kids)+1), []api.Node{d.class(), d.statement(1), d.expr(0), {}}[d.throw(4)])
	case 7:
		slices.Reverse(n.Kids)
	}
	return n
}

// TestTwistedNodes asks that Print prints what may be, and nothing else.
func TestTwistedNodes(t *testing.T) {
	d := dice(77)
	right := 0
	for range 10000 {
		n := d.twisted(api.Node{Kind: api.NProgram, Kids: append(d.some(0, 2, d.class), d.block(2))})
		if many(n) > 300 {
			continue
		}
		text, f := Print(n)
		if !fits(n) || n.Kind != api.NProgram {
			if f != (api.Fault{Code: api.ErrForm}) || text != "" {
				t.Fatalf("%s: %q %v", shown(n), text, f)
			}
			continue
		}
		right++
		got, g := Parse(text)
		if f != (api.Fault{}) || len(text) <= maxText && (g != (api.Fault{}) || shown(got) != shown(n)) {
			t.Fatalf("%s: %q %v", shown(n), text, f)
		}
	}
	if right < 1000 {
		t.Error(right)
	}
}
