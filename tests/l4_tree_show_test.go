package tests

import (
	"fmt"
	"math/rand/v2"
	"slices"
	"testing"

	"loop.example/g00017/impl"
)

func checkShown(t *testing.T, want string, n impl.Node) {
	t.Helper()
	if got := impl.Show(n); got != want {
		t.Errorf("%q is shown, not %q", got, want)
	}
}

func TestShow(t *testing.T) {
	x, one := tree(impl.NVar, "x"), tree(impl.NNum, "1")
	checkShown(t, "0", impl.Node{})
	checkShown(t, "0", impl.Node{Kids: []impl.Node{}})
	checkShown(t, "31", tree(impl.PWild, ""))
	checkShown(t, "1:78", x)
	checkShown(t, "6(1:78 3:31)", tree(impl.NApp, "", x, one))
	checkShown(t, "17(1:78)", tree(impl.NNeg, "", x))
	checkShown(t, "15:2b2d(6(1:78 3:31))", tree(impl.NLeft, "+-", tree(impl.NApp, "", x, one)))
	checkShown(t, "11(12(17(1:78)) 3:31 12 12(3:31 17(17(1:78))))", tree(impl.NTuple, "", tree(impl.NList, "", tree(impl.NNeg, "", x)), one,
		tree(impl.NList, ""), tree(impl.NList, "", one, tree(impl.NNeg, "", tree(impl.NNeg, "", x)))))
	checkShown(t, "-5:0aff(99)", tree(-5, "\n\xff", tree(99, "")))
	checkShown(t, "-9223372036854775808(9223372036854775807)", tree(-1<<63, "", tree(1<<63-1, "")))
	checkShown(t, "3:302c31", tree(impl.NNum, "0,1"))
}

func TestShowEveryByte(t *testing.T) {
	all, text := "", "5:"
	for b := range 256 {
		checkShown(t, fmt.Sprintf("5:%02x", b), tree(impl.NStr, string([]byte{byte(b)})))
		all += string([]byte{byte(b)})
		text += fmt.Sprintf("%02x", b)
	}
	checkShown(t, text, tree(impl.NStr, all))
}

func TestShowManyKids(t *testing.T) {
	checkShown(t, showSlowly(wideTree(30000)), wideTree(30000))
	for _, n := range severalTrees() {
		checkShown(t, showSlowly(n), n)
	}
	for _, n := range longTrees() {
		checkShown(t, showSlowly(n), n)
	}
}

func TestNodeCount(t *testing.T) {
	for _, n := range append(severalTrees(), longTrees()...) {
		want, _ := measures(n)
		if got := impl.NodeCount(n); got != int64(want) {
			t.Errorf("%s has %d nodes, not %d", showSlowly(n), got, want)
		}
	}
	if impl.NodeCount(impl.Node{}) != 1 || impl.NodeCount(tree(0, "", impl.Node{}, tree(0, "", impl.Node{}))) != 4 || impl.NodeCount(wideTree(70000)) != 70000 {
		t.Error("a node without kids is one, and nodes with faults count")
	}
}

func checkSame(t *testing.T, want bool, a, b impl.Node) {
	t.Helper()
	if impl.SameNode(a, b) != want || impl.SameNode(b, a) != want {
		t.Errorf("%s and %s: not %v", showSlowly(a), showSlowly(b), want)
	}
}

func TestSameNode(t *testing.T) {
	x, y := tree(impl.NVar, "x"), tree(impl.NVar, "y")
	checkSame(t, true, impl.Node{}, impl.Node{Kids: []impl.Node{}})
	checkSame(t, true, tree(impl.NApp, "", x, y), tree(impl.NApp, "", x, y))
	checkSame(t, false, tree(impl.NApp, "", x, y), tree(impl.NApp, "", y, x))
	checkSame(t, false, tree(impl.NApp, "", x, y), tree(impl.NApp, "", x, y, y))
	checkSame(t, false, tree(impl.NApp, "", x), tree(impl.NTuple, "", x))
	checkSame(t, false, tree(impl.NApp, "f", x), tree(impl.NApp, "", x))
	checkSame(t, false, tree(impl.NList, ""), tree(impl.NList, "", x))
	checkSame(t, false, tree(impl.NList, "", tree(impl.NList, "", x), y), tree(impl.NList, "", tree(impl.NList, "", x, y)))
	checkSame(t, false, tree(impl.NList, "", tree(impl.NList, ""), x), tree(impl.NList, "", x, tree(impl.NList, "")))
	checkSame(t, false, tree(0, "a\x00"), tree(0, "a"))
	checkSame(t, false, tree(1, ""), tree(1+1<<32, ""))
}

func TestSameNodeOfAllPairs(t *testing.T) {
	trees := append(severalTrees(), longTrees()...)
	for _, a := range trees {
		for _, b := range trees {
			if impl.SameNode(a, b) != sameSlowly(a, b) {
				t.Errorf("%s and %s", showSlowly(a), showSlowly(b))
			}
		}
		checkSame(t, true, a, cloneTree(a))
	}
}

// One change anywhere in a tree makes another tree.
func TestSameNodeWithOneChange(t *testing.T) {
	r := rand.New(rand.NewPCG(4, 2))
	for _, n := range append(severalTrees(), longTrees()...) {
		for range 10 {
			other := cloneTree(n)
			changeOnce(r, &other)
			checkSame(t, false, n, other)
		}
	}
}

// changeOnce goes to some node and changes its kind, its name, or how many kids it has.
func changeOnce(r *rand.Rand, n *impl.Node) {
	for len(n.Kids) > 0 && r.IntN(3) > 0 {
		n = &n.Kids[r.IntN(len(n.Kids))]
	}
	switch r.IntN(4) {
	case 0:
		n.Kind++
	case 1:
		n.Name += "x"
	case 2:
		n.Kids = append(n.Kids, impl.Node{})
	default:
		n.Kids = slices.Insert(n.Kids, 0, tree(impl.NVar, "fresh"))
	}
}
