package tests

import (
	"testing"

	"loop.example/g00017/impl"
)

func TestMostNodes(t *testing.T) {
	most, over := wideTree(impl.MaxNodes), wideTree(impl.MaxNodes+1)
	checkNodeFault(t, 0, most)
	checkNodeFault(t, 1, over)
	bad := impl.Node{Kind: impl.NList, Kids: append([]impl.Node{{}}, most.Kids[1:]...)}
	checkNodeFault(t, 2, bad)
	checkNodeFault(t, 1, tree(impl.NNeg, "", most), tree(0, "", most), tree(0, "x", over))
	for _, n := range []impl.Node{most, over} {
		if got := impl.NodeCount(n); got != int64(len(n.Kids))+1 {
			t.Errorf("%d nodes", got)
		}
	}
}

// The nodes of all branches count together.
func TestMostNodesInBranches(t *testing.T) {
	branch := wideTree(100)
	n := tree(impl.NList, "")
	for range 199 {
		n.Kids = append(n.Kids, branch)
	}
	n.Kids = append(n.Kids, wideTree(99))
	checkNodeFault(t, 0, n)
	n.Kids = append(n.Kids, tree(impl.NNum, "1"))
	checkNodeFault(t, 1, n)
}

func TestMostLevels(t *testing.T) {
	one, bad := tree(impl.NNum, "1"), tree(impl.NNum, "01")
	checkNodeFault(t, 0, deepTree(impl.MaxDeep, one), deepTree(impl.MaxDeep-1, one))
	checkNodeFault(t, 1, deepTree(impl.MaxDeep+1, one), deepTree(impl.MaxDeep+1, bad), deepTree(10*impl.MaxDeep, impl.Node{}))
	checkNodeFault(t, 2, deepTree(impl.MaxDeep, bad))
	side := tree(impl.NTuple, "", one, deepTree(impl.MaxDeep-1, one), one)
	checkNodeFault(t, 0, side)
	checkNodeFault(t, 1, tree(impl.NNeg, "", side), tree(impl.NTuple, "", bad, deepTree(impl.MaxDeep, one)))
}

// The fault that is named first is told, wherever the other one stands.
func TestSizeAheadOfShape(t *testing.T) {
	deep := deepTree(impl.MaxDeep+1, tree(impl.NNum, "1"))
	wide := wideTree(impl.MaxNodes + 1)
	checkNodeFault(t, 1, tree(impl.NList, "name", impl.Node{}, deep), tree(impl.NList, "", deep, impl.Node{}), tree(99, "", impl.Node{}, wide), tree(impl.NApp, "", wide))
}

// A tree may stand in itself or in many places: it is too large, and that is told soon.
func TestTreesWithoutEnd(t *testing.T) {
	kids := make([]impl.Node, 2)
	kids[0], kids[1] = tree(impl.NVar, "x"), tree(impl.NApp, "", kids...)
	checkedFault(t, 1, kids[1])
	n := tree(impl.NNum, "1")
	for range 100 {
		n = tree(impl.NTuple, "", n, n)
	}
	checkedFault(t, 1, n)
}

// checkedFault does not show the tree, as that would not end.
func checkedFault(t *testing.T, want int64, n impl.Node) {
	t.Helper()
	if got := impl.NodeFault(n); got != want {
		t.Errorf("fault %d, not %d", got, want)
	}
}

func TestVeryDeepTrees(t *testing.T) {
	const levels = 300000
	a, b := deepTree(levels, tree(impl.NNum, "1")), deepTree(levels, tree(impl.NNum, "2"))
	checkedFault(t, 1, a)
	if got := impl.NodeCount(a); got != levels {
		t.Errorf("%d nodes", got)
	}
	if impl.SameNode(a, b) || !impl.SameNode(a, a) || impl.SameNode(a, tree(impl.NNeg, "", a)) {
		t.Error("two deep trees are not told apart")
	}
	text := impl.Show(a)
	if len(text) != 4*levels || text[:6] != "17(17(" || text[3*(levels-1):3*(levels-1)+5] != "3:31)" {
		t.Errorf("%.20s has %d bytes", text, len(text))
	}
}
