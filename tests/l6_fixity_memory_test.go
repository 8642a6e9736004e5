package tests

import (
	"math/rand/v2"
	"slices"
	"strings"
	"sync"
	"testing"

	"loop.example/g00017/impl"
)

// An orderCase is what Reorder may be asked.
type orderCase struct {
	tree  impl.Node
	table []impl.Fixity
}

// severalOrders has cases with each code.
func severalOrders() []orderCase {
	m := treeMaker{rand.New(rand.NewPCG(6, 7))}
	var cases []orderCase
	for _, n := range slices.Concat(severalTrees(), longTrees(), somePieces()) {
		cases = append(cases, orderCase{n, nil}, orderCase{n, someTable()})
	}
	for round := range 300 {
		cases = append(cases, orderCase{m.withChains(m.module(2 + round%4)), drawnTable(m.Rand, round%3 > 0)})
	}
	a := tree(impl.NVar, "a")
	clash := tree(impl.NOps, "", a, tree(impl.NVar, "%"), a, tree(impl.NVar, "%"), a)
	return append(cases, orderCase{clash, someTable()}, orderCase{clash, nil})
}

func cloneTable(table []impl.Fixity) []impl.Fixity {
	own := slices.Clone(table)
	for i := range own {
		own[i].Name = strings.Clone(own[i].Name)
	}
	return own
}

func TestOrderingChangesNothing(t *testing.T) {
	behind := []impl.Fixity{fixity("behind", 1, 2), fixity("+", 1, 2)}
	for _, c := range severalOrders() {
		own, room := roomyTree(c.tree), append(cloneTable(c.table), behind...)
		got := impl.Reorder(own, room[:len(c.table)])
		impl.FixityOf(room[:len(c.table)], "+")
		if !sameSlowly(own, c.tree) || !roomKept(own) {
			t.Errorf("%s is changed", kinded(c.tree))
		}
		if !slices.Equal(room[:len(c.table)], c.table) || !slices.Equal(room[len(c.table):], behind) {
			t.Errorf("the table is changed at %s", kinded(c.tree))
		}
		if !sameOrder(got, impl.Reorder(c.tree, c.table)) {
			t.Errorf("%s hangs on what stands behind a list", kinded(c.tree))
		}
	}
}

// textsIn has the texts of a tree and of a table.
func textsIn(n impl.Node, table []impl.Fixity) []string {
	var texts []string
	eachNode(n, func(inner impl.Node) {
		if inner.Name != "" {
			texts = append(texts, inner.Name)
		}
	})
	for _, entry := range table {
		texts = append(texts, entry.Name)
	}
	return texts
}

func TestOrdersAreNewMemory(t *testing.T) {
	codes := map[int64]int{}
	for _, c := range severalOrders() {
		own, table := cloneTree(c.tree), cloneTable(c.table)
		first := impl.Reorder(own, table)
		want := impl.FixResult{Code: first.Code, Name: first.Name, Tree: cloneTree(first.Tree)}
		codes[first.Code]++
		if !listsApart(first.Tree) {
			t.Errorf("%s in order: two lists share memory", kinded(c.tree))
		}
		given := textsIn(own, table)
		for _, name := range append(textsIn(first.Tree, nil), first.Name) {
			if slices.ContainsFunc(given, func(text string) bool { return within(name, text) || within(text, name) }) {
				t.Errorf("%q lies in an argument", name)
			}
		}
		spoilLists(first.Tree)
		if !sameSlowly(own, c.tree) || !slices.Equal(table, c.table) {
			t.Errorf("%s shares memory with what it is in order", kinded(c.tree))
		}
		if again := impl.Reorder(own, table); !sameOrder(again, want) {
			t.Errorf("%s is put in order another way behind a change of its tree", kinded(c.tree))
		}
	}
	if codes[0] < 100 || codes[1] < 20 || codes[2] < 20 {
		t.Errorf("codes %v", codes)
	}
}

func TestFixitiesAreNewMemory(t *testing.T) {
	for _, name := range []string{"+", "nothing", ":", "l"} {
		table, asked := cloneTable(someTable()), strings.Clone(name)
		got := impl.FixityOf(table, asked)
		for _, text := range append(textsIn(impl.Node{}, table), asked) {
			if within(got.Name, text) {
				t.Errorf("%q lies in an argument", name)
			}
		}
		if !slices.Equal(table, someTable()) {
			t.Errorf("the table is changed at %q", name)
		}
	}
}

// With a code there is no tree, a name with 1 alone.
func TestOrderCodesStandAlone(t *testing.T) {
	for _, c := range severalOrders() {
		got := impl.Reorder(c.tree, c.table)
		empty := got.Tree.Kind == 0 && got.Tree.Name == "" && len(got.Tree.Kids) == 0
		if (got.Code == 1) != (got.Name != "") || (got.Code != 0) != empty || (got.Code == 2) != (impl.NodeFault(c.tree) != 0) || got.Code < 0 || got.Code > 2 {
			t.Errorf("%s has code %d %q %s", kinded(c.tree), got.Code, got.Name, kinded(got.Tree))
		}
	}
}

// Calls at the same time and in any order answer alike.
func TestOrdersHangOnArgumentsAlone(t *testing.T) {
	cases := severalOrders()
	var first []impl.FixResult
	var fixities []impl.Fixity
	for _, c := range cases {
		first, fixities = append(first, impl.Reorder(c.tree, c.table)), append(fixities, impl.FixityOf(c.table, "+"))
	}
	var all sync.WaitGroup
	for worker := range 8 {
		all.Go(func() {
			for i := range cases {
				at := (i*7 + worker) % len(cases)
				c := cases[at]
				if !sameOrder(impl.Reorder(c.tree, c.table), first[at]) || impl.FixityOf(c.table, "+") != fixities[at] {
					t.Errorf("%s is put in order another way", kinded(c.tree))
				}
			}
		})
	}
	all.Wait()
}
