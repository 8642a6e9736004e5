package tests

import (
	"math/rand/v2"
	"runtime/debug"
	"strconv"
	"strings"
	"testing"

	"loop.example/g00017/impl"
)

// mostOperators is how many operators a chain of MaxNodes nodes has.
const mostOperators = (impl.MaxNodes - 2) / 2

// climb puts a long chain without a clash in order from left to right, with operators that wait on a stack.
func (c drawnChain) climb() impl.Node {
	operands, waiting := []impl.Node{c.operand(0)}, []int{}
	fold := func(least impl.Fixity) {
		for len(waiting) > 0 {
			at := waiting[len(waiting)-1]
			if top := c.fixities[at]; top.Level < least.Level || top.Level == least.Level && least.Side == 2 {
				return
			}
			last := len(operands) - 1
			operands = append(operands[:last-1], operation(c.operator(at), operands[last-1], operands[last]))
			waiting = waiting[:len(waiting)-1]
		}
	}
	for i, f := range c.fixities {
		fold(f)
		waiting, operands = append(waiting, i), append(operands, c.operand(i+1))
	}
	fold(fixity("", 1, -1<<63))
	return operands[0]
}

// longChains has chains as long as a tree can have them, in which the levels rise, fall, stay or go anyhow.
func longChains(kind int64) map[string]drawnChain {
	r := rand.New(rand.NewPCG(6, 6))
	chains := map[string]drawnChain{}
	for name, rule := range map[string]func(i int64) impl.Fixity{
		"left":    func(i int64) impl.Fixity { return fixity("", 1, 9) },
		"right":   func(i int64) impl.Fixity { return fixity("", 2, 9) },
		"rising":  func(i int64) impl.Fixity { return fixity("", 0, i) },
		"falling": func(i int64) impl.Fixity { return fixity("", 0, -i) },
		"turning": func(i int64) impl.Fixity { return fixity("", 0, min(i, mostOperators-i)*2+i%2) },
		"by two":  func(i int64) impl.Fixity { return fixity("", 1+i%2, i%2) },
		"of ten":  func(i int64) impl.Fixity { level := r.Int64N(10); return fixity("", 1+level%2, level) },
		"of many": func(i int64) impl.Fixity { level := r.Int64(); return fixity("", 1+level%2, level) },
		"of some": func(i int64) impl.Fixity { level := r.Int64N(1000); return fixity("", 1+level%2, level) },
	} {
		fixities := make([]impl.Fixity, mostOperators)
		for i := range fixities {
			fixities[i] = rule(int64(i))
		}
		chains[name] = named(kind, fixities)
	}
	return chains
}

func TestLongestChains(t *testing.T) {
	defer debug.SetMaxStack(debug.SetMaxStack(smallStack))
	for _, kind := range []int64{impl.NOps, impl.POps} {
		for name, c := range longChains(kind) {
			n := c.node()
			if count := impl.NodeCount(n); count != impl.MaxNodes || impl.NodeFault(n) != 0 {
				t.Fatalf("%d nodes", count)
			}
			if got := impl.Reorder(n, c.fixities); got.Code != 0 || got.Name != "" || !impl.SameNode(got.Tree, c.climb()) {
				t.Errorf("%s: code %d %q", name, got.Code, got.Name)
			}
		}
	}
}

// A clash is found wherever it is in a long chain: among the operators that are outermost, or inmost.
func TestLongestChainsWithClash(t *testing.T) {
	for name, c := range longChains(impl.NOps) {
		for _, at := range []int{1, mostOperators / 2, mostOperators - 1} {
			kept := [2]impl.Fixity{c.fixities[at-1], c.fixities[at]}
			c.fixities[at-1].Side, c.fixities[at-1].Level, c.fixities[at].Side, c.fixities[at].Level = 2, 1<<62, 1, 1<<62
			if name == "of many" {
				c.fixities[at-1].Level, c.fixities[at].Level = -5, -5
			}
			if got := impl.Reorder(c.node(), c.fixities); got.Code != 1 || got.Name != c.fixities[at].Name || len(got.Tree.Kids) > 0 {
				t.Errorf("%s at %d: code %d %q", name, at, got.Code, got.Name)
			}
			c.fixities[at-1], c.fixities[at] = kept[0], kept[1]
		}
	}
}

// Chains that stand in one another as deep as a tree may be, on the left, on the right and in the middle.
func TestDeepestChains(t *testing.T) {
	table := someTable()
	for _, kind := range []int64{impl.NOps, impl.POps} {
		leaf, x, y := tree(impl.NVar, "a"), tree(impl.NVar, "+"), tree(impl.NVar, "*")
		if kind == impl.POps {
			leaf, x, y = tree(impl.PVar, "a"), tree(impl.PCon, ":+"), tree(impl.PCon, ":*")
		}
		for side := range 3 {
			n, want := leaf, leaf
			for range impl.MaxDeep - 1 {
				operands, wanted := []impl.Node{leaf, leaf, leaf}, []impl.Node{leaf, leaf, leaf}
				operands[side], wanted[side] = n, want
				n = tree(kind, "", operands[0], x, operands[1], y, operands[2])
				want = operation(x, wanted[0], operation(y, wanted[1], wanted[2]))
			}
			if got := impl.Reorder(n, table); got.Code != 0 || !sameSlowly(got.Tree, want) {
				t.Errorf("deep chains have code %d %q", got.Code, got.Name)
			}
			if got := impl.Reorder(tree(kind, "", n, x, leaf), table); got.Code != 2 || got.Name != "" {
				t.Errorf("chains that are too deep have code %d %q", got.Code, got.Name)
			}
		}
	}
	for _, levels := range []int{1, 2, impl.MaxDeep} {
		want := tree(impl.NVar, "a")
		for range levels - 1 {
			want = tree(impl.NApp, "", tree(impl.NVar, "negate"), want)
		}
		if got := impl.Reorder(deepTree(levels, tree(impl.NVar, "a")), nil); got.Code != 0 || !sameSlowly(got.Tree, want) {
			t.Errorf("%d levels: code %d", levels, got.Code)
		}
	}
}

// Blocks in one another as deep as a tree may be, each with a declaration of its own.
func TestDeepestBlocks(t *testing.T) {
	chain := tree(impl.NOps, "", tree(impl.NVar, "a"), tree(impl.NVar, "x0"), tree(impl.NVar, "b"), tree(impl.NVar, "x1"), tree(impl.NVar, "c"))
	n := chain
	for i := range impl.MaxDeep/2 - 1 {
		fix := tree(impl.DFix, "infixl", tree(impl.NNum, strconv.Itoa(i%10)), tree(impl.DNames, "", tree(impl.DItem, "x"+strconv.Itoa(i%3))))
		n = tree(impl.NLet, "", fix, tree(impl.NOps, "", tree(impl.NVar, "d"), tree(impl.NVar, "x0"), n, tree(impl.NVar, "x1"), tree(impl.NVar, "e")))
	}
	if got := checkOrder(t, n, nil); got.Code != 0 {
		t.Errorf("deep blocks have code %d %q", got.Code, got.Name)
	}
	names := make([]impl.Node, impl.MaxNodes-10)
	for i := range names {
		names[i] = tree(impl.DItem, "x"+strconv.Itoa(i))
	}
	wide := tree(impl.NLet, "", tree(impl.DFix, "infixr", tree(impl.NNum, "3"), tree(impl.DNames, "", names...)), chain)
	if got := impl.Reorder(wide, nil); got.Code != 0 || kinded(got.Tree.Kids[1]) != "NApp(NVar:x0 NVar:a NApp(NVar:x1 NVar:b NVar:c))" {
		t.Errorf("a long declaration gives code %d", got.Code)
	}
}

// Wide trees, trees with long names, and tables that are longer than any tree.
func TestLargeOrders(t *testing.T) {
	if got := impl.Reorder(wideTree(impl.MaxNodes), nil); got.Code != 0 || !impl.SameNode(got.Tree, wideTree(impl.MaxNodes)) {
		t.Errorf("a wide tree has code %d", got.Code)
	}
	long := strings.Repeat("x", impl.MaxSource)
	n := tree(impl.NOps, "", tree(impl.NVar, "a"), tree(impl.NVar, long), tree(impl.NVar, "b"), tree(impl.NVar, long), tree(impl.NVar, "c"))
	if got := impl.Reorder(n, []impl.Fixity{fixity(long, 0, 0)}); got.Code != 1 || got.Name != long {
		t.Errorf("a long name has code %d", got.Code)
	}
	table := make([]impl.Fixity, 300000)
	for i := range table {
		table[i] = fixity("x"+strconv.Itoa(i%100000), 2, int64(i))
	}
	c := tree(impl.NOps, "", tree(impl.NVar, "a"), tree(impl.NVar, "x99999"), tree(impl.NVar, "b"), tree(impl.NVar, "x99998"), tree(impl.NVar, "c"))
	if got := impl.Reorder(c, table); got.Code != 0 || kinded(got.Tree) != "NApp(NVar:x99998 NApp(NVar:x99999 NVar:a NVar:b) NVar:c)" {
		t.Errorf("a long table gives %d %s", got.Code, kinded(got.Tree))
	}
}
