package fold

import (
	"math/big"
	"testing"

	"gesso/api"
	"gesso/check"
	"gesso/syntax"
)

// knownAs answers the number that a node is known as; nil, if it is not known.
func knownAs(n api.Node) *big.Int {
	if n.Kind == api.NNumber {
		return big.NewInt(int64(n.Num))
	}
	if n.Kind == api.NNeg && n.Kids[0].Kind == api.NNumber {
		return big.NewInt(int64(-n.Kids[0].Num))
	}
	return nil
}

// one answers 1, if it is so; else 0.
func one(is bool) *big.Int { return big.NewInt(map[bool]int64{true: 1}[is]) }

// comesOf answers what comes of a node by its kids; nil, if not all of them are
// known, or it is of another kind.
func comesOf(n api.Node) *big.Int {
	var all []*big.Int
	for _, kid := range n.Kids {
		x := knownAs(kid)
		if x == nil {
			return nil
		}
		all = append(all, x)
	}
	x := new(big.Int)
	switch n.Kind {
	case api.NAdd:
		return x.Add(all[0], all[1])
	case api.NSub:
		return x.Sub(all[0], all[1])
	case api.NMul:
		return x.Mul(all[0], all[1])
	case api.NLess:
		return one(all[0].Cmp(all[1]) < 0)
	case api.NSame:
		return one(all[0].Cmp(all[1]) == 0)
	case api.NNeg:
		return x.Neg(all[0])
	case api.NNot:
		return one(all[0].Sign() == 0)
	}
	return nil
}

// turn lets the first node that can be reckoned, as they stand, become what comes
// of it, and tells whether there was one.
func turn(n *api.Node) bool {
	if x := comesOf(*n); x != nil && x.CmpAbs(big.NewInt(1<<30-1)) <= 0 {
		if known := knownAs(*n); known == nil || known.Sign() == 0 {
			*n = api.Node{Kind: api.NNumber, Num: int(new(big.Int).Abs(x).Int64())}
			if x.Sign() < 0 {
				*n = api.Node{Kind: api.NNeg, Kids: []api.Node{*n}}
			}
			return true
		}
	}
	for i := range n.Kids {
		if turn(&n.Kids[i]) {
			return true
		}
	}
	return false
}

// saidOver answers what a program becomes, and how many nodes are reckoned: Q1
// said over again, in another way than the program's: by numbers without bounds,
// one node after the other, each time looked for from the program on.
func saidOver(t *testing.T, n api.Node) (string, int) {
	t.Helper()
	many := 0
	for turn(&n) {
		many++
	}
	printed, f := syntax.Print(n)
	if f != (api.Fault{}) {
		t.Fatalf("%v: %v", n, f)
	}
	return printed, many
}

// agreed asks that Text answers what is said over again, and the same once more
// of what it answered, or the fault of check.Check and nothing else. It answers
// what Text does, how many nodes are reckoned, and whether text is a program.
func agreed(t *testing.T, text string) (got string, many int, is bool) {
	t.Helper()
	program, fault := check.Check(text)
	want := ""
	if fault == (api.Fault{}) {
		want, many = saidOver(t, program)
	}
	got, f := Text(text)
	if got != want || f != fault {
		t.Fatalf("%q:\n%q %v, want\n%q %v", text, got, f, want, fault)
	}
	if fault == (api.Fault{}) && len(got) <= 4000 {
		if again, f := Text(got); again != got || f != (api.Fault{}) {
			t.Fatalf("%q:\n%q, once more\n%q %v", text, got, again, f)
		}
	}
	return got, many, fault == (api.Fault{})
}
