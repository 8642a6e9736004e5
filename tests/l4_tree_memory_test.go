package tests

import (
	"slices"
	"sync"
	"testing"

	"loop.example/g00017/impl"
)

// roomyTree copies a tree with a node behind each of its lists, in the room that the list could grow into.
func roomyTree(n impl.Node) impl.Node {
	room := make([]impl.Node, 0, len(n.Kids)+1)
	for _, kid := range n.Kids {
		room = append(room, roomyTree(kid))
	}
	room = append(room, tree(-7, "behind"))
	n.Kids = room[:len(n.Kids)]
	return n
}

// roomKept says whether what stands behind the lists is as it was.
func roomKept(n impl.Node) bool {
	room := n.Kids[:len(n.Kids)+1]
	last := room[len(n.Kids)]
	return last.Kind == -7 && last.Name == "behind" && last.Kids == nil && !slices.ContainsFunc(n.Kids, func(kid impl.Node) bool { return !roomKept(kid) })
}

func TestTreeCallsChangeNothing(t *testing.T) {
	for _, n := range append(severalTrees(), longTrees()...) {
		own, twin := roomyTree(n), roomyTree(n)
		fault, count, text := impl.NodeFault(own), impl.NodeCount(own), impl.Show(own)
		if !impl.SameNode(own, twin) || !impl.SameNode(own, own) {
			t.Errorf("%s is not the same as itself", showSlowly(n))
		}
		impl.SameNode(own, impl.Node{})
		if !sameSlowly(own, n) || !sameSlowly(twin, n) || !roomKept(own) || !roomKept(twin) {
			t.Errorf("%s is changed", showSlowly(n))
		}
		if fault != impl.NodeFault(n) || count != impl.NodeCount(n) || text != impl.Show(n) {
			t.Errorf("%s: the answers hang on what stands behind the lists", showSlowly(n))
		}
	}
}

func TestShowKeepsNothingOfTheTree(t *testing.T) {
	var look func(text string, n impl.Node)
	look = func(text string, n impl.Node) {
		if within(text, n.Name) || within(n.Name, text) {
			t.Errorf("%q shares memory", n.Name)
		}
		for _, kid := range n.Kids {
			look(text, kid)
		}
	}
	for _, n := range severalTrees() {
		own := cloneTree(n)
		look(impl.Show(own), own)
	}
}

// Calls at the same time and in any order answer alike.
func TestTreeAnswersHangOnArgumentsAlone(t *testing.T) {
	trees := append(severalTrees(), longTrees()...)
	var faults, counts []int64
	var texts []string
	for _, n := range trees {
		faults, counts, texts = append(faults, impl.NodeFault(n)), append(counts, impl.NodeCount(n)), append(texts, impl.Show(n))
	}
	var all sync.WaitGroup
	for worker := range 8 {
		all.Go(func() {
			for i := range trees {
				at := (i*7 + worker) % len(trees)
				n := trees[at]
				if impl.NodeFault(n) != faults[at] || impl.NodeCount(n) != counts[at] || impl.Show(n) != texts[at] || !impl.SameNode(n, trees[at]) {
					t.Errorf("%s answers another way", showSlowly(n))
				}
			}
		})
	}
	all.Wait()
}
