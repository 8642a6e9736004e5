package tests

import (
	"math/rand/v2"
	"slices"
	"testing"

	"loop.example/g00017/impl"
)

func TestEachKindHasATree(t *testing.T) {
	plain := plainTrees()
	if len(allKinds()) != 53 {
		t.Fatal("the table has 53 kinds")
	}
	for _, kind := range allKinds() {
		n, ok := plain[kind]
		if !ok {
			t.Errorf("no tree of kind %d", kind)
		}
		checkNodeFault(t, 0, n)
	}
	checkNodeFault(t, 0, somePieces()...)
}

// Every kind with all lists of at most two kids.
func TestKidsOfEveryKind(t *testing.T) {
	plain, pieces, c := plainTrees(), somePieces(), newSlowChecker()
	for _, kind := range allKinds() {
		name := plain[kind].Name
		checkTree(t, c, tree(kind, name))
		for _, a := range pieces {
			checkTree(t, c, tree(kind, name, a))
			for _, b := range pieces {
				checkTree(t, c, tree(kind, name, a, b))
			}
		}
	}
}

// Three and more kids: what the table says and what differs from it in one point.
func TestKidsInOnePointWrong(t *testing.T) {
	pieces, c := somePieces(), newSlowChecker()
	good := longTrees()
	checkNodeFault(t, 0, good...)
	for _, n := range good {
		for at := range len(n.Kids) + 1 {
			for _, piece := range pieces {
				checkTree(t, c, tree(n.Kind, n.Name, slices.Insert(slices.Clone(n.Kids), at, piece)...))
			}
			if at == len(n.Kids) {
				break
			}
			checkTree(t, c, tree(n.Kind, n.Name, slices.Delete(slices.Clone(n.Kids), at, at+1)...))
			for _, piece := range pieces {
				other := slices.Clone(n.Kids)
				other[at] = piece
				checkTree(t, c, tree(n.Kind, n.Name, other...))
			}
			for behind := range at {
				swapped := slices.Clone(n.Kids)
				swapped[at], swapped[behind] = swapped[behind], swapped[at]
				checkTree(t, c, tree(n.Kind, n.Name, swapped...))
			}
		}
	}
}

// longTrees has trees with more kids than they need, where the table lets them.
func longTrees() []impl.Node {
	k := plainTrees()
	e, p, ty := k[impl.NApp], k[impl.PTuple], k[impl.TFun]
	op, pop := tree(impl.NVar, "f"), tree(impl.PCon, ":")
	names, context := tree(impl.DNames, "", k[impl.DItem]), tree(impl.DContext, "", tree(impl.TApp, "", k[impl.TCon], k[impl.TVar]))
	sig, clause, fix := k[impl.DSig], k[impl.DClause], k[impl.DFix]
	return []impl.Node{
		tree(impl.NApp, "", e, e, e, e), tree(impl.NLam, "", p, p, p, e), tree(impl.NLet, "", sig, clause, fix, sig, e), tree(impl.NIf, "", e, e, e),
		tree(impl.NCase, "", e, k[impl.NAlt], k[impl.NAlt], k[impl.NAlt]), tree(impl.NAlt, "", p, k[impl.NRhs]),
		tree(impl.NRhs, "", e, fix, sig, clause), tree(impl.NRhs, "", k[impl.NGuard], k[impl.NGuard], sig, clause), tree(impl.NRhs, "", k[impl.NGuard]),
		tree(impl.NGuard, "", e, e), tree(impl.NTuple, "", e, e, e), tree(impl.NTuple, ""), tree(impl.NList, "", e, e, e), tree(impl.NList, ""),
		tree(impl.NRange, "", e, e), tree(impl.NComp, "", e, k[impl.NGen], k[impl.NTest], k[impl.NGen]), tree(impl.NGen, "", p, e),
		tree(impl.NOps, "", e, op, e, k[impl.NCon], e), tree(impl.NOps, "", op, op, op), tree(impl.POps, "", p, pop, p, k[impl.PCon], p), tree(impl.POps, "", pop, pop, pop),
		tree(impl.PCon, "C", p, p, p), tree(impl.PTuple, "", p, p, p), tree(impl.PTuple, ""), tree(impl.PList, "", p, p, p), tree(impl.PList, ""),
		tree(impl.TApp, "", ty, ty, ty), tree(impl.TFun, "", ty, ty), tree(impl.TTuple, "", ty, ty, ty), tree(impl.TTuple, ""),
		tree(impl.DSig, "", names, context, ty), tree(impl.DClause, "+", p, p, p, k[impl.NRhs]), tree(impl.DFix, "infixr", tree(impl.NNum, "9"), names),
		tree(impl.DData, "D", names, k[impl.DConstr], k[impl.DConstr], names), tree(impl.DConstr, "C", ty, ty, ty),
		tree(impl.DClass, "C", context, k[impl.TVar], sig, sig), tree(impl.DInst, "C", context, ty, clause, clause),
		tree(impl.DImport, "M", names), tree(impl.DImport, "M"), tree(impl.DContext, "", context.Kids[0], context.Kids[0], context.Kids[0]),
		tree(impl.DNames, "", k[impl.DItem], k[impl.DItem], k[impl.DItem]), tree(impl.DModule, "M", names),
		tree(impl.DModule, "M", tree(impl.DNames, "all"), k[impl.DImport], k[impl.DImport], fix, sig, clause, k[impl.DData], k[impl.DClass], k[impl.DInst], fix),
		tree(impl.DModule, "M", names, k[impl.DInst], clause, sig, k[impl.DClass], fix, k[impl.DData]),
	}
}

func TestRandomTrees(t *testing.T) {
	r, c := rand.New(rand.NewPCG(4, 1)), newSlowChecker()
	for range 3000 {
		checkTree(t, c, randomTree(r, 4))
	}
}

func TestKindsThatAreNone(t *testing.T) {
	kinds := allKinds()
	for kind := int64(-80); kind <= 200; kind++ {
		if slices.Contains(kinds, kind) {
			continue
		}
		for _, name := range []string{"", "x", "C", "all"} {
			checkNodeFault(t, 2, tree(kind, name), tree(kind, name, tree(impl.NNum, "1")), tree(kind, name, tree(kind, name)), tree(impl.NList, "", tree(kind, name)))
		}
	}
	checkNodeFault(t, 2, impl.Node{}, tree(1<<62, ""), tree(-1<<63, ""), tree(impl.NNum+1<<32, "1"))
}

func TestTuplesOfNoneOneAndTwo(t *testing.T) {
	for kind, kid := range map[int64]impl.Node{impl.NTuple: tree(impl.NNum, "1"), impl.PTuple: tree(impl.PWild, ""), impl.TTuple: tree(impl.TVar, "a")} {
		checkNodeFault(t, 0, tree(kind, ""), tree(kind, "", kid, kid), tree(kind, "", kid, kid, kid))
		checkNodeFault(t, 2, tree(kind, "", kid))
	}
}

func TestRightHandSides(t *testing.T) {
	k := plainTrees()
	e, guard, d := k[impl.NNum], k[impl.NGuard], k[impl.DClause]
	checkNodeFault(t, 0, tree(impl.NRhs, "", e), tree(impl.NRhs, "", guard), tree(impl.NRhs, "", guard, guard), tree(impl.NRhs, "", e, d, d), tree(impl.NRhs, "", guard, guard, d))
	checkNodeFault(t, 2, tree(impl.NRhs, ""), tree(impl.NRhs, "", d), tree(impl.NRhs, "", e, e), tree(impl.NRhs, "", e, guard), tree(impl.NRhs, "", guard, e),
		tree(impl.NRhs, "", d, e), tree(impl.NRhs, "", guard, d, guard), tree(impl.NRhs, "", e, d, e), tree(impl.NRhs, "", e, k[impl.DData]))
}

func TestOperatorsByTurns(t *testing.T) {
	one, f, plus, cons := tree(impl.NNum, "1"), tree(impl.NVar, "f"), tree(impl.NVar, "+"), tree(impl.NCon, ":")
	checkNodeFault(t, 0, tree(impl.NOps, "", one, plus, one), tree(impl.NOps, "", one, f, one, cons, one), tree(impl.NOps, "", plus, plus, plus))
	checkNodeFault(t, 2, tree(impl.NOps, ""), tree(impl.NOps, "", one), tree(impl.NOps, "", one, plus), tree(impl.NOps, "", plus, one), tree(impl.NOps, "", plus),
		tree(impl.NOps, "", one, one, one), tree(impl.NOps, "", one, plus, one, plus), tree(impl.NOps, "", plus, one, plus, one), tree(impl.NOps, "", one, plus, one, one, one),
		tree(impl.NOps, "+", one, plus, one))
	x, pop := tree(impl.PVar, "x"), tree(impl.PCon, "C")
	colon, full := tree(impl.PCon, ":"), tree(impl.PCon, "C", x)
	checkNodeFault(t, 0, tree(impl.POps, "", x, colon, x), tree(impl.POps, "", full, pop, x, colon, full), tree(impl.POps, "", pop, pop, pop))
	checkNodeFault(t, 2, tree(impl.POps, ""), tree(impl.POps, "", x), tree(impl.POps, "", x, colon), tree(impl.POps, "", colon, x), tree(impl.POps, "", x, x, x),
		tree(impl.POps, "", x, full, x), tree(impl.POps, "", x, colon, x, colon), tree(impl.POps, "", x, tree(impl.NCon, ":"), x), tree(impl.POps, "", x, tree(impl.NVar, "+"), x))
}

func TestWhereAllMayStand(t *testing.T) {
	k := plainTrees()
	all, none, e := tree(impl.DNames, "all"), tree(impl.DNames, ""), k[impl.NNum]
	checkNodeFault(t, 0, all, tree(impl.DModule, "M", all), tree(impl.DModule, "M", all, k[impl.DImport]), tree(impl.DNames, "", tree(impl.DItem, "all")))
	checkNodeFault(t, 2, tree(impl.DNames, "all", k[impl.DItem]), tree(impl.DModule, "M", tree(impl.DNames, "all", k[impl.DItem])), tree(impl.DNames, "some"), tree(impl.DNames, "All"),
		tree(impl.DImport, "M", all), tree(impl.DModule, "M", none, tree(impl.DImport, "M", all)), tree(impl.DSig, "", all, k[impl.DContext], k[impl.TVar]), tree(impl.DFix, "infix", e, all),
		tree(impl.DData, "D", all, k[impl.DConstr], none), tree(impl.DData, "D", none, k[impl.DConstr], all), tree(impl.DModule, "M", all, all), tree(impl.DModule, "M", none, all))
}

func TestModulesInOrder(t *testing.T) {
	k := plainTrees()
	none, imports := tree(impl.DNames, ""), k[impl.DImport]
	for _, kind := range []int64{impl.DFix, impl.DSig, impl.DClause, impl.DData, impl.DClass, impl.DInst} {
		checkNodeFault(t, 0, tree(impl.DModule, "M", none, imports, imports, k[kind], k[kind]))
		checkNodeFault(t, 2, tree(impl.DModule, "M", none, k[kind], imports), tree(impl.DModule, "M", none, imports, k[kind], imports), tree(impl.DModule, "M", k[kind], none), tree(impl.DModule, "M", k[kind]))
	}
	checkNodeFault(t, 2, tree(impl.DModule, "M"), tree(impl.DModule, "M", imports), tree(impl.DModule, "M", none, none), tree(impl.DModule, "M", none, tree(impl.DModule, "N", none)),
		tree(impl.DModule, "M", none, k[impl.DConstr]), tree(impl.DModule, "M", none, k[impl.DContext]))
}

func TestLevelsOfFixities(t *testing.T) {
	names := tree(impl.DNames, "")
	for _, level := range []string{"0", "1", "2", "3", "4", "5", "6", "7", "8", "9"} {
		checkNodeFault(t, 0, tree(impl.DFix, "infixl", tree(impl.NNum, level), names))
	}
	for _, level := range []string{"10", "99", "00", "-1", "", "x"} {
		checkNodeFault(t, 2, tree(impl.DFix, "infixl", tree(impl.NNum, level), names))
	}
	checkNodeFault(t, 2, tree(impl.DFix, "infixl", tree(impl.PNum, "1"), names), tree(impl.DFix, "infixl", tree(impl.NVar, "x"), names))
}

// A fault anywhere is a fault of the whole.
func TestFaultsFarInside(t *testing.T) {
	one := tree(impl.NNum, "1")
	for _, bad := range []impl.Node{{}, tree(impl.NNum, "01"), tree(impl.NApp, "", one), tree(impl.PVar, "x"), tree(impl.DNames, "all")} {
		n := bad
		for range 20 {
			n = tree(impl.NTuple, "", one, n, one)
			checkNodeFault(t, 2, n)
		}
	}
}
