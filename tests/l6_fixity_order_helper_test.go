package tests

import (
	"math"
	"math/rand/v2"
	"slices"
	"testing"

	"loop.example/g00017/impl"
)

func fixity(name string, side, level int64) impl.Fixity {
	return impl.Fixity{Name: name, Side: side, Level: level}
}

// fixitySlowly looks through the whole list.
func fixitySlowly(table []impl.Fixity, name string) impl.Fixity {
	for _, entry := range append(slices.Clone(table), fixity(":", 2, 5)) {
		if entry.Name == name {
			return entry
		}
	}
	return fixity(name, 1, 9)
}

// orderSlowly is a second reading of Reorder: blocks put their entries ahead of the list, and a chain is taken apart one operator at a time.
func orderSlowly(n impl.Node, table []impl.Fixity) impl.FixResult {
	if impl.NodeFault(n) != 0 {
		return impl.FixResult{Code: 2}
	}
	tree, clash := slowTree(n, table)
	if clash != "" {
		return impl.FixResult{Code: 1, Name: clash}
	}
	return impl.FixResult{Tree: tree}
}

func slowTree(n impl.Node, table []impl.Fixity) (impl.Node, string) {
	var entries []impl.Fixity
	for _, kid := range n.Kids {
		if kid.Kind == impl.DFix {
			side := map[string]int64{"infix": 0, "infixl": 1, "infixr": 2}[kid.Name]
			for _, item := range kid.Kids[1].Kids {
				entries = append(entries, fixity(item.Name, side, int64(kid.Kids[0].Name[0])-48))
			}
		}
	}
	table = append(entries, table...)
	var kids []impl.Node
	for _, kid := range n.Kids {
		ordered, clash := slowTree(kid, table)
		if clash != "" {
			return impl.Node{}, clash
		}
		kids = append(kids, ordered)
	}
	switch n.Kind {
	case impl.NNeg:
		return tree(impl.NApp, "", tree(impl.NVar, "negate"), kids[0]), ""
	case impl.NOps, impl.POps:
		return slowChain(kids, table)
	}
	return tree(n.Kind, n.Name, kids...), ""
}

func slowChain(kids []impl.Node, table []impl.Fixity) (impl.Node, string) {
	if len(kids) == 1 {
		return kids[0], ""
	}
	least, several := int64(math.MaxInt64), []int(nil)
	for at := 1; at < len(kids); at += 2 {
		least = min(least, fixitySlowly(table, kids[at].Name).Level)
	}
	for at := 1; at < len(kids); at += 2 {
		if fixitySlowly(table, kids[at].Name).Level == least {
			several = append(several, at)
		}
	}
	outermost := several[len(several)-1]
	for i := 1; i < len(several); i++ {
		a, b := fixitySlowly(table, kids[several[i-1]].Name).Side, fixitySlowly(table, kids[several[i]].Name).Side
		if !(a == 1 && b == 1 || a == 2 && b == 2) {
			return impl.Node{}, kids[several[i]].Name
		}
		if b == 2 {
			outermost = several[0]
		}
	}
	left, clash := slowChain(kids[:outermost], table)
	if clash != "" {
		return impl.Node{}, clash
	}
	right, clash := slowChain(kids[outermost+1:], table)
	return operation(kids[outermost], left, right), clash
}

// operation applies an operator to its sides.
func operation(operator, left, right impl.Node) impl.Node {
	if operator.Kind == impl.PCon {
		return tree(impl.PCon, operator.Name, left, right)
	}
	return tree(impl.NApp, "", operator, left, right)
}

func sameOrder(a, b impl.FixResult) bool {
	return a.Code == b.Code && a.Name == b.Name && sameSlowly(a.Tree, b.Tree)
}

// checkOrder holds what is answered against the second reading, and asks for what each answer has.
func checkOrder(t *testing.T, n impl.Node, table []impl.Fixity) impl.FixResult {
	t.Helper()
	got, want := impl.Reorder(n, table), orderSlowly(n, table)
	if !sameOrder(got, want) {
		t.Fatalf("%s\nby %v is %d %q %s\nnot %d %q %s", kinded(n), table, got.Code, got.Name, kinded(got.Tree), want.Code, want.Name, kinded(want.Tree))
	}
	if got.Code != 0 {
		return got
	}
	eachNode(got.Tree, func(inner impl.Node) {
		if inner.Kind == impl.NOps || inner.Kind == impl.POps || inner.Kind == impl.NNeg {
			t.Fatalf("%s has what is not in order", kinded(got.Tree))
		}
	})
	if fault := impl.NodeFault(got.Tree); fault == 2 {
		t.Fatalf("%s has a fault", kinded(got.Tree))
	} else if again := impl.Reorder(got.Tree, table); fault == 0 && (again.Code != 0 || !impl.SameNode(again.Tree, got.Tree)) {
		t.Fatalf("%s is not in order", kinded(got.Tree))
	}
	return got
}

// orderedText is what is printed of a module in order, or ? and the operator that clashes.
func orderedText(t *testing.T, text string, table []impl.Fixity) string {
	t.Helper()
	got := checkOrder(t, parsed(t, text), table)
	if got.Code != 0 {
		return "?" + got.Name
	}
	if text := impl.Print(got.Tree); text != printSlowly(got.Tree) {
		t.Errorf("%s is printed as %s", kinded(got.Tree), text)
	}
	return impl.Print(got.Tree)
}

// checkOrdered reads a text at a place, puts it in order there, and compares what is printed.
func checkOrdered(t *testing.T, p place, table []impl.Fixity, rows [][2]string) {
	t.Helper()
	for _, row := range rows {
		want := row[1]
		if want[0] != '?' {
			want = p.ahead + want + p.behind
		}
		if got := orderedText(t, p.ahead+row[0]+p.behind, table); got != want {
			t.Errorf("%q in order is\n%s, not\n%s", row[0], got, want)
		}
	}
}

// someTable has an operator of each side at three levels, named by both: those of letters stand between two `.
func someTable() []impl.Fixity {
	return []impl.Fixity{
		fixity("==", 0, 4), fixity("++", 1, 4), fixity("^^", 2, 4),
		fixity("+", 1, 6), fixity("-", 1, 6), fixity("^", 2, 6), fixity("%", 0, 6), fixity("*", 1, 7), fixity("**", 2, 7), fixity("%%", 0, 7),
		fixity("l", 1, 3), fixity("r", 2, 3), fixity("n", 0, 3), fixity("L", 1, 3), fixity("R", 2, 3), fixity("N", 0, 3), fixity(":+", 1, 6), fixity(":^", 2, 6), fixity(":%", 0, 6), fixity(":*", 1, 7),
	}
}

// drawnTable has a fixity for each name that treeMaker gives, at a level of few. A tame one has the side by the level, so that only infix clashes.
func drawnTable(r *rand.Rand, tame bool) []impl.Fixity {
	var table []impl.Fixity
	for _, name := range []string{"x", "y'", "+", "-", "!", "~", "_z", "C", "D'", ":", ":+", "+"} {
		side, level := r.Int64N(4), r.Int64N(4)
		if tame {
			side = 1 + level%2
		}
		if r.IntN(4) > 0 {
			table = append(table, fixity(name, side, level))
		}
	}
	return table
}
