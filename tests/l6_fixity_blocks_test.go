package tests

import (
	"math/rand/v2"
	"strings"
	"testing"

	"loop.example/g00017/impl"
)

// The two orders of a + b * c, of which the first is by the table that checkBlocks gives.
const (
	timesInside = "( ( + ) a ( ( * ) b c ) )"
	plusInside  = "( ( * ) ( ( + ) a b ) c )"
)

// checkBlocks puts a module in order; in a row @ stands for a + b * c, T and P for its orders with times or plus inside.
func checkBlocks(t *testing.T, rows [][2]string) {
	t.Helper()
	table := []impl.Fixity{fixity("+", 1, 6), fixity("*", 1, 7)}
	for _, row := range rows {
		text := "module M where { " + strings.ReplaceAll(row[0], "@", "a + b * c") + " }"
		want := "module M where { " + strings.NewReplacer("T", timesInside, "P", plusInside).Replace(row[1]) + " }"
		if got := orderedText(t, text, table); got != want {
			t.Errorf("%s in order is\n%s, not\n%s", row[0], got, want)
		}
	}
}

func TestBlocksOfModules(t *testing.T) {
	checkBlocks(t, [][2]string{
		{"x = @", "x = T"}, {"infixl 9 + ; x = @", "infixl 9 + ; x = P"}, {"x = @ ; infixl 9 +", "x = P ; infixl 9 +"}, {"infixl 6 + ; x = @", "infixl 6 + ; x = T"}, {"infixl 7 + ; x = @", "infixl 7 + ; x = P"}, {"infixl 0 * ; x = @", "infixl 0 * ; x = P"}, {"infixl 8 + , * ; x = @", "infixl 8 + , * ; x = P"}, {"infixl 8 - , + ; x = @", "infixl 8 - , + ; x = P"},
		{"infixl 9 + ; infixl 0 + ; x = @", "infixl 9 + ; infixl 0 + ; x = P"}, {"infixl 0 + ; infixl 9 + ; x = @", "infixl 0 + ; infixl 9 + ; x = T"}, {"infixl 0 + ; x = @ ; infixl 9 +", "infixl 0 + ; x = T ; infixl 9 +"}, {"infixl 9 + , + ; infixl 0 + ; x = @", "infixl 9 + , + ; infixl 0 + ; x = P"}, {"infix 9 ++ ; x = @", "infix 9 ++ ; x = T"},
		{"infixl 9 + ; instance K Q where { x = @ ; y = @ }", "infixl 9 + ; instance K Q where { x = P ; y = P }"}, {"instance K Q where { x = @ } ; infixl 9 +", "instance K Q where { x = P } ; infixl 9 +"}, {"infixl 9 + ; f | @ = @ where { y = @ }", "infixl 9 + ; f | P = P where { y = P }"}, {"infixl 9 + ; f = [ @ | x <- [ @ ] , @ ]", "infixl 9 + ; f = [ P | x <- [ P ] , P ]"},
	})
	checkOrdered(t, inWhole(), nil, [][2]string{
		{"module M where{infixl 6 +;infixr 6 ^;x=a+b^c}", "?^"}, {"module M where{infix 6 +;x=a+b+c}", "?+"}, {"module M where{infix 0 `f`;x=a`f`b`f`c}", "?f"}, {"module M where{infixr 0 `f`;x=a`f`b`f`c}", "module M where { infixr 0 ` f ` ; x = ( f a ( f b c ) ) }"}, {"module M where{infixr 0 `C`;x=a`C`b`C`c;y(a`C`b`C`c)=d}", "module M where { infixr 0 ` C ` ; x = ( C a ( C b c ) ) ; y ( C a ( C b c ) ) = d }"},
		{"module M where{infixl 5 :;x=a:b:c;y(a:b:c)=d}", "module M where { infixl 5 : ; x = ( ( : ) ( ( : ) a b ) c ) ; y ( ( : ) ( ( : ) a b ) c ) = d }"}, {"module M where{infixr 9 !,~;x=a!b~c}", "module M where { infixr 9 ! , ~ ; x = ( ( ! ) a ( ( ~ ) b c ) ) }"},
	})
	for level := range 10 {
		digit := string(rune('0' + level))
		want := "( ( ? ) ( ( + ) a b ) c )"
		if level < 4 {
			want = "( ( + ) a ( ( ? ) b c ) )"
		}
		checkOrdered(t, place{ahead: "module M where { infix " + digit + " + ; x = ", behind: " }"}, []impl.Fixity{fixity("?", 1, 4)}, [][2]string{{"a+b?c", map[bool]string{true: "??", false: want}[level == 4]}})
	}
}

func TestInnerBlocks(t *testing.T) {
	checkBlocks(t, [][2]string{
		{"x = ( let { infixl 9 + ; y = @ } in @ )", "x = ( let { infixl 9 + ; y = P } in P )"}, {"x = ( let { y = @ ; infixl 9 + } in @ )", "x = ( let { y = P ; infixl 9 + } in P )"}, {"x = @ where { infixl 9 + ; y = @ }", "x = P where { infixl 9 + ; y = P }"}, {"x | @ = @ where { y = @ ; infixl 9 + }", "x | P = P where { y = P ; infixl 9 + }"},
		{"x = ( case @ of { y | @ -> @ where { infixl 9 + ; z = @ } } )", "x = ( case T of { y | P -> P where { infixl 9 + ; z = P } } )"}, {"x = ( case @ of { y -> @ where { infixl 9 + } ; z -> @ } )", "x = ( case T of { y -> P where { infixl 9 + } ; z -> T } )"}, {"instance K Q where { x = @ where { infixl 9 + ; y = @ } ; z = @ }", "instance K Q where { x = P where { infixl 9 + ; y = P } ; z = T }"},
		{"instance K Q where { x = ( let { infixl 9 + } in @ ) ; z = @ }", "instance K Q where { x = ( let { infixl 9 + } in P ) ; z = T }"}, {"x = ( \\ y -> ( let { infixl 9 + } in [ @ | z <- @ ] ) )", "x = ( \\ y -> ( let { infixl 9 + } in [ P | z <- P ] ) )"},
	})
	checkBlocks(t, [][2]string{ // blocks beside the place
		{"x = ( let { infixl 9 + } in @ ) ; y = @", "x = ( let { infixl 9 + } in P ) ; y = T"}, {"x = @ ; y = ( let { infixl 9 + } in @ )", "x = T ; y = ( let { infixl 9 + } in P )"}, {"x = y where { infixl 9 + } ; z = @", "x = y where { infixl 9 + } ; z = T"}, {"x = z where { y = w where { infixl 9 + } ; v = @ }", "x = z where { y = w where { infixl 9 + } ; v = T }"}, {"x = [ ( let { infixl 9 + } in y ) , @ ]", "x = [ ( let { infixl 9 + } in y ) , T ]"},
		{"x = @ where { y = w where { infixl 9 + } }", "x = T where { y = w where { infixl 9 + } }"}, {"x = ( let { y = w where { infixl 9 + } } in @ )", "x = ( let { y = w where { infixl 9 + } } in T )"}, {"x = ( ( let { infixl 9 + } in y ) @ )", "x = ( ( + ) ( ( let { infixl 9 + } in y ) a ) ( ( * ) b c ) )"},
		{"x = a + ( let { infixl 9 + } in b ) * c", "x = ( ( + ) a ( ( * ) ( let { infixl 9 + } in b ) c ) )"},
	})
	checkBlocks(t, [][2]string{ // blocks in one another
		{"infixl 9 + ; x = ( let { infixl 0 + } in @ ) ; y = @", "infixl 9 + ; x = ( let { infixl 0 + } in T ) ; y = P"}, {"infixl 0 + ; x = @ where { infixl 9 + ; y = ( let { infixl 1 + } in @ ) ; z = @ }", "infixl 0 + ; x = P where { infixl 9 + ; y = ( let { infixl 1 + } in T ) ; z = P }"}, {"x = ( let { infixl 9 + } in ( let { infixl 0 + ; infixl 9 + } in @ ) )", "x = ( let { infixl 9 + } in ( let { infixl 0 + ; infixl 9 + } in T ) )"},
		{"x = ( let { infixl 0 + } in ( let { infixl 9 + ; infixl 0 + } in @ ) )", "x = ( let { infixl 0 + } in ( let { infixl 9 + ; infixl 0 + } in P ) )"}, {"x = ( let { infixl 9 + } in ( let { infixl 8 * } in @ ) )", "x = ( let { infixl 9 + } in ( let { infixl 8 * } in P ) )"}, {"x = ( let { infixl 8 + } in ( let { infixl 9 * } in @ ) )", "x = ( let { infixl 8 + } in ( let { infixl 9 * } in T ) )"}, {"infixl 9 + ; x = ( let { } in @ )", "infixl 9 + ; x = ( let { } in P )"},
		{"x = ( let { infixl 9 + } in ( let { infixl 9 - } in @ ) )", "x = ( let { infixl 9 + } in ( let { infixl 9 - } in P ) )"}, {"infixl 9 + ; x = @ where { infixl 0 + ; infixl 1 + ; y = ( case @ of { z -> @ where { infixl 8 + , * } } ) }", "infixl 9 + ; x = T where { infixl 0 + ; infixl 1 + ; y = ( case T of { z -> P where { infixl 8 + , * } } ) }"},
	})
	checkOrdered(t, inTop(), nil, [][2]string{ // patterns of a clause stand outside of its own block, those within it inside
		{"f (a:b:c) = d where { infixl 1 : ; g (a:b:c) = \\(a:b:c) -> d }", "f ( ( : ) a ( ( : ) b c ) ) = d where { infixl 1 : ; g ( ( : ) ( ( : ) a b ) c ) = ( \\ ( ( : ) ( ( : ) a b ) c ) -> d ) }"}, {"f = case a of { a:b:c -> a:b:c where { infixl 1 : } }", "f = ( case a of { ( : ) a ( ( : ) b c ) -> ( ( : ) ( ( : ) a b ) c ) where { infixl 1 : } } )"},
	})
	checkOrdered(t, inExp(), []impl.Fixity{fixity("+", 1, 6)}, [][2]string{{"let{infixr 6 ^}in a+b^c", "?^"}, {"let{infixr 6 +;infix 6 ^}in a+b+c", "( let { infixr 6 + ; infix 6 ^ } in ( ( + ) a ( ( + ) b c ) ) )"}, {"let{infix 6 +}in(let{infixl 3 +}in a+b+c)+(a+b+c)", "?+"}})
}

// Trees of each kind may be the root; of one that is a block itself the declarations count.
func TestOrderOfEachKind(t *testing.T) {
	a, plus, times := tree(impl.NVar, "a"), tree(impl.NVar, "+"), tree(impl.NVar, "*")
	item := tree(impl.DItem, "+")
	fix := tree(impl.DFix, "infixl", tree(impl.NNum, "9"), tree(impl.DNames, "", item))
	chain := tree(impl.NOps, "", a, plus, a, times, a)
	table := []impl.Fixity{fixity("+", 1, 6), fixity("*", 1, 7)}
	inside := tree(impl.NApp, "", plus, a, tree(impl.NApp, "", times, a, a))
	outside := tree(impl.NApp, "", times, tree(impl.NApp, "", plus, a, a), a)
	for _, row := range [][2]impl.Node{
		{chain, inside}, {fix, fix}, {tree(impl.NRhs, "", chain), tree(impl.NRhs, "", inside)}, {tree(impl.NRhs, "", chain, fix), tree(impl.NRhs, "", outside, fix)}, {tree(impl.NLet, "", fix, chain), tree(impl.NLet, "", fix, outside)}, {tree(impl.NLet, "", chain), tree(impl.NLet, "", inside)},
		{tree(impl.NTest, "", chain), tree(impl.NTest, "", inside)}, {tree(impl.NGuard, "", chain, chain), tree(impl.NGuard, "", inside, inside)}, {tree(impl.NNeg, "", chain), tree(impl.NApp, "", tree(impl.NVar, "negate"), inside)}, {tree(impl.DNames, "all"), tree(impl.DNames, "all")}, {tree(impl.DNames, "", item), tree(impl.DNames, "", item)},
		{tree(impl.POps, "", tree(impl.PCon, ":"), tree(impl.PCon, ":"), tree(impl.PCon, ":")), tree(impl.PCon, ":", tree(impl.PCon, ":"), tree(impl.PCon, ":"))}, {tree(impl.NOps, "", plus, plus, plus), tree(impl.NApp, "", plus, plus, plus)}, {tree(impl.NOps, "", plus, tree(impl.NCon, "C"), times), tree(impl.NApp, "", tree(impl.NCon, "C"), plus, times)},
	} {
		if got := checkOrder(t, row[0], table); got.Code != 0 || !sameSlowly(got.Tree, row[1]) {
			t.Errorf("%s in order is %d %s, not %s", kinded(row[0]), got.Code, kinded(got.Tree), kinded(row[1]))
		}
	}
	chained := map[int64]bool{impl.NOps: true, impl.POps: true, impl.NNeg: true}
	for kind, n := range plainTrees() {
		if got := checkOrder(t, n, nil); got.Code != 0 || got.Name != "" || !chained[kind] && !sameSlowly(got.Tree, n) {
			t.Errorf("%s in order is %d %s", kinded(n), got.Code, kinded(got.Tree))
		}
	}
	for _, n := range append(longTrees(), somePieces()...) {
		checkOrder(t, n, table)
	}
}

// withChains puts chains of several operators in place of expressions and patterns in a tree.
func (m treeMaker) withChains(n impl.Node) impl.Node {
	kids := make([]impl.Node, len(n.Kids))
	for i, kid := range n.Kids {
		isOperator := (n.Kind == impl.NOps || n.Kind == impl.POps) && i%2 == 1
		kids[i] = m.withChains(kid)
		switch {
		case m.IntN(3) > 0 || isOperator || n.Kind == impl.DFix:
		case impl.NVar <= kid.Kind && kid.Kind <= impl.NOps:
			kids[i] = m.longer(kids[i], impl.NOps, m.expression, func() impl.Node { return tree(impl.NVar, m.variable()) })
		case impl.PVar <= kid.Kind && kid.Kind <= impl.POps:
			kids[i] = m.longer(kids[i], impl.POps, m.pattern, func() impl.Node { return tree(impl.PCon, m.constructor()) })
		}
	}
	return tree(n.Kind, n.Name, kids...)
}

func (m treeMaker) longer(n impl.Node, kind int64, side func(int) impl.Node, between func() impl.Node) impl.Node {
	nodes := append(m.turns(0, side, between), between(), n, between(), side(0))
	return tree(kind, "", nodes...)
}

// Trees of any shape, by tables of any kind, and with declarations in them.
func TestOrderOfDrawnTrees(t *testing.T) {
	t.Parallel()
	m := treeMaker{rand.New(rand.NewPCG(6, 3))}
	codes := map[int64]int{}
	makers := []func(int) impl.Node{m.module, m.expression, m.pattern, m.rightSide, m.declaration, m.top, m.alternative, m.qualifier, m.clause}
	for round := range 12000 {
		n := m.withChains(makers[round%len(makers)](1 + round%6))
		codes[checkOrder(t, n, drawnTable(m.Rand, round%4 > 0)).Code]++
	}
	if codes[0] < 4000 || codes[1] < 1000 || len(codes) > 2 {
		t.Errorf("codes %v", codes)
	}
}

// Modules that are read, put in order by no table and by several.
func TestOrderOfModules(t *testing.T) {
	r := rand.New(rand.NewPCG(6, 4))
	for _, text := range append(severalModules(), someModules()...) {
		n := parsed(t, text)
		for _, table := range [][]impl.Fixity{nil, someTable(), drawnTable(r, false), drawnTable(r, true)} {
			checkOrder(t, n, table)
		}
	}
}

// A fault of the tree goes ahead of all else, and no name is told.
func TestOrderOfFaultyTrees(t *testing.T) {
	a, percent := tree(impl.NVar, "a"), tree(impl.NVar, "%")
	clash := tree(impl.NOps, "", a, percent, a, percent, a)
	table := []impl.Fixity{fixity("%", 0, 1)}
	if got := impl.Reorder(clash, table); got.Code != 1 || got.Name != "%" || got.Tree.Kind != 0 || len(got.Tree.Kids) > 0 {
		t.Errorf("a clash has code %d %q %s", got.Code, got.Name, kinded(got.Tree))
	}
	var around impl.Node // a tree that stands in itself
	around = tree(impl.NNeg, "", a)
	around.Kids[0] = around
	for _, n := range []impl.Node{
		{}, tree(99, ""), tree(-1, "x", a), tree(impl.NVar, ""), tree(impl.NVar, "where"), tree(impl.NOps, ""), tree(impl.NOps, "", a), tree(impl.NOps, "", a, percent), tree(impl.NOps, "", a, percent, a, percent), tree(impl.NOps, "x", a, percent, a), tree(impl.NOps, "", a, tree(impl.NNum, "1"), a), tree(impl.POps, "", a, percent, a), tree(impl.NNeg, ""), tree(impl.NNeg, "", a, a),
		tree(impl.NTuple, "", clash), tree(impl.NApp, "", clash), tree(impl.NApp, "", clash, tree(impl.NVar, "")), tree(impl.NApp, "", tree(impl.NVar, ""), clash), tree(impl.NList, "", clash, tree(impl.PVar, "x")), tree(impl.NLet, "", clash, tree(impl.DFix, "infixx", tree(impl.NNum, "1"), tree(impl.DNames, ""))), tree(impl.NLet, "", tree(impl.DFix, "infix", tree(impl.NNum, "10"), tree(impl.DNames, "")), clash), tree(impl.NLet, "", tree(impl.DFix, "infix"), clash), tree(impl.NLet, "", tree(impl.DFix, "infix", tree(impl.NNum, ""), tree(impl.DNames, "")), clash), tree(impl.DFix, "infix"),
		deepTree(impl.MaxDeep, clash), deepTree(100000, a), wideTree(impl.MaxNodes + 1), tree(impl.NList, "", append([]impl.Node{clash}, wideTree(impl.MaxNodes-5).Kids...)...), around,
	} {
		if got := impl.Reorder(n, table); got.Code != 2 || got.Name != "" || got.Tree.Kind != 0 || got.Tree.Name != "" || len(got.Tree.Kids) > 0 {
			t.Errorf("%.100s has code %d %q", impl.Show(tree(n.Kind, n.Name)), got.Code, got.Name)
		}
	}
	for _, n := range []impl.Node{deepTree(impl.MaxDeep-1, clash), tree(impl.NList, "", append([]impl.Node{clash}, wideTree(impl.MaxNodes-6).Kids...)...)} {
		if got := impl.Reorder(n, table); got.Code != 1 || got.Name != "%" {
			t.Errorf("what is as large as may be has code %d %q", got.Code, got.Name)
		}
	}
	r := rand.New(rand.NewPCG(6, 5))
	for range 5000 {
		checkOrder(t, randomTree(r, 4), table)
	}
}
