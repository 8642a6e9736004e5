package tests

import (
	"math"
	"testing"

	"loop.example/g00017/impl"
)

// checkNothing asks that nothing is told of trees, with types and without.
func checkNothing(t *testing.T, trees ...impl.Node) {
	t.Helper()
	for i, n := range trees {
		if got := impl.Interface(n, someTyped()) + impl.Interface(n, nil); got != "" {
			t.Errorf("tree %d, %d %q, has the interface %.300s", i, n.Kind, n.Name, got)
		}
	}
}

func TestInterfaceOfNoModule(t *testing.T) {
	checkNothing(t, impl.Node{}, impl.Node{Name: "M"}, tree(impl.DData, "M", tree(impl.DNames, "all")))
	kids := defining("M", value("f", tree(impl.NNum, "1")), dataNamed("T", "A")).Kids
	for _, kind := range append(allKinds(), 0, -1, 24, 29, 42, 49, 56, 59, 72, 68<<8, 68+1<<32, math.MaxInt64, math.MinInt64) {
		if kind != impl.DModule {
			checkNothing(t, tree(kind, "M", kids...), plainTrees()[kind])
		}
	}
	checkNothing(t, severalTrees()...)
	if got := impl.Interface(tree(impl.DModule, "M", kids...), nil); got != "data T\n" {
		t.Errorf("%s", got)
	}
}

// A fault anywhere in the tree counts, in what no line is about too.
func TestInterfaceOfFaultyTrees(t *testing.T) {
	all, one := tree(impl.DNames, "all"), tree(impl.NNum, "1")
	f, data := value("f", one), dataNamed("T", "A")
	item := func(name string) impl.Node { return tree(impl.DNames, "", tree(impl.DItem, name)) }
	checkNothing(t,
		tree(impl.DModule, "", all, f), tree(impl.DModule, "m", all, f), tree(impl.DModule, "M.M", all, f), tree(impl.DModule, "where", all, f), tree(impl.DModule, "+", all, f),
		tree(impl.DModule, "M"), tree(impl.DModule, "M", f, data), tree(impl.DModule, "M", data, all), tree(impl.DModule, "M", all, all, f), tree(impl.DModule, "M", tree(impl.DNames, "some"), f),
		tree(impl.DModule, "M", tree(impl.DNames, "all", tree(impl.DItem, "f")), f), tree(impl.DModule, "M", tree(impl.DNames, "", f), f), tree(impl.DModule, "M", tree(impl.DNames, "", item("f")), f),
		tree(impl.DModule, "M", item(""), f), tree(impl.DModule, "M", item("where"), f), tree(impl.DModule, "M", item("M.f"), f), tree(impl.DModule, "M", item(".."), f), tree(impl.DModule, "M", item("f "), f), tree(impl.DModule, "M", item("1"), f), tree(impl.DModule, "M", item("--"), f), tree(impl.DModule, "M", tree(impl.DNames, "", tree(impl.DItem, "f", tree(impl.DItem, "f"))), f),
		defining("M", f, tree(impl.DImport, "N")), defining("M", f, data, one), defining("M", value("", one)), defining("M", value("F", one)), defining("M", value("=", one)), defining("M", value(":+", one)), defining("M", value("M.f", one)),
		defining("M", f, value("g", tree(impl.NNum, "01"))), defining("M", f, value("g", tree(impl.NApp, "", one))), defining("M", f, tree(impl.DClause, "g", one)), defining("M", f, tree(impl.DClause, "g")),
		defining("M", f, dataNamed("t", "A")), defining("M", f, dataNamed("T", "a")), defining("M", f, dataNamed(":+", "A")), defining("M", f, tree(impl.DData, "T", tree(impl.DNames, ""), tree(impl.DNames, ""))),
		defining("M", f, tree(impl.DClass, "K", tree(impl.DContext, ""), tree(impl.TCon, "A"))), defining("M", f, tree(impl.DImport, "N", all)), defining("M", f, defining("N")),
	)
	module := parsed(t, exportingSorts("f , T , K"))
	spoilt, kinds := 0, map[int64]int{}
	eachNode(module, func(n impl.Node) { spoilt, kinds[n.Kind] = spoilt+1, kinds[n.Kind]+1 })
	for at := range spoilt {
		left := at
		checkNothing(t, mapTree(module, func(n impl.Node) impl.Node {
			if left--; left == -1 {
				n.Name += "\x01"
			}
			return n
		}))
	}
	if spoilt < 80 || len(kinds) < 15 {
		t.Errorf("%d nodes of the kinds %v", spoilt, kinds)
	}
}

// One node more than may be, and one level more.
func TestInterfaceOfTheLargestModules(t *testing.T) {
	one, types := tree(impl.NNum, "1"), someTyped()
	wide := func(nodes int) impl.Node { return defining("M", value("f", wideTree(nodes)), dataNamed("T", "A")) }
	deep := func(levels int) impl.Node {
		return defining("M", value("f", deepTree(levels, one)), dataNamed("T", "A"))
	}
	for _, n := range []impl.Node{wide(impl.MaxNodes - 8), deep(impl.MaxDeep - 3)} {
		if got := checkInterface(t, n, types); got != "f :: a -> a\ndata T\n" || impl.NodeFault(n) != 0 {
			t.Errorf("%s", got)
		}
	}
	if count := impl.NodeCount(wide(impl.MaxNodes - 8)); count != impl.MaxNodes {
		t.Errorf("%d nodes", count)
	}
	checkNothing(t, wide(impl.MaxNodes-7), deep(impl.MaxDeep-2), wide(10*impl.MaxNodes), deep(1000*impl.MaxDeep))
}

// A tree that comes back to itself has a fault, and a type that does has no line.
func TestInterfaceOfTreesWithoutAnEnd(t *testing.T) {
	kids := make([]impl.Node, 3)
	kids[0], kids[1] = tree(impl.DNames, "all"), dataNamed("T", "A")
	kids[2] = tree(impl.DModule, "M", kids...)
	checkNothing(t, kids[2], tree(impl.DModule, "M", kids...))
	body := make([]impl.Node, 1)
	body[0] = tree(impl.NNeg, "", body...)
	checkNothing(t, defining("M", value("f", body[0])))
	items := tree(impl.DNames, "", make([]impl.Node, 2)...)
	items.Kids[0], items.Kids[1] = items, items
	checkNothing(t, tree(impl.DModule, "M", items))

	for _, count := range []int{1, 2, 5} {
		args := make([]impl.Type, count)
		for i := range args {
			args[i] = typeCon("(,,,,)", args...)
		}
		for i := range args {
			args[i].Args = args
		}
		types := []impl.Typed{{Name: "M.f", Scheme: impl.Scheme{Type: args[0]}}, typedAs("M.f", "Int", ""), typedAs("M.g", "Int", "")}
		if got := impl.Interface(exporting("M", []string{"f", "g", "f"}), types); got != "g :: Int\n" {
			t.Errorf("%d: %.300s", count, got)
		}
	}
	far := impl.Typed{Name: "M.f", Scheme: impl.Scheme{Type: nested(300000, typeVar(0))}}
	if got := impl.Interface(exporting("M", []string{"f", "g"}), []impl.Typed{far, typedAs("M.g", "Int", "")}); got != "g :: Int\n" {
		t.Errorf("%.300s", got)
	}
}

func TestInterfaceWithoutTypes(t *testing.T) {
	for _, types := range [][]impl.Typed{nil, {}, {{}}, make([]impl.Typed, 3), {{Name: "M."}}, {{Name: "M.f"}}} {
		checkInterfaces(t, types, [][2]string{
			{"module M where { " + sortsOfDecls + " }", "data T\nclass K\nclass K2\ndata T2\n"},
			{exportingSorts("f , K , (+) , T , u , (:+) , U"), "class K\ndata T\n"},
			{exportingSorts("f , g , (!)"), ""},
			{"module M where { f = 1 }", ""},
		})
		checkNothing(t, impl.Node{})
	}
}
