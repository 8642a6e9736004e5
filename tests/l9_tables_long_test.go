package tests

import (
	"fmt"
	"slices"
	"testing"

	"loop.example/g00017/impl"
)

// bound is a part of a context.
func bound(class, variable string) impl.Node {
	return tree(impl.TApp, "", tree(impl.TCon, class), tree(impl.TVar, variable))
}

func classNode(name string, supers []string, sigs ...impl.Node) impl.Node {
	context := tree(impl.DContext, "")
	for _, super := range supers {
		context.Kids = append(context.Kids, bound(super, "a"))
	}
	return tree(impl.DClass, name, append([]impl.Node{context, tree(impl.TVar, "a")}, sigs...)...)
}

func instNode(class string, held impl.Node, bounds ...impl.Node) impl.Node {
	return tree(impl.DInst, class, tree(impl.DContext, "", bounds...), held)
}

func numbered(letter string, i int) string { return fmt.Sprint(letter, i) }

// Classes in a line, as many as a module may have, in both orders; without a round, and with one at either end.
func TestLongLinesOfClasses(t *testing.T) {
	const count = 3300
	for _, back := range []int{-1, 0, count - 1, count / 2} {
		var decls []impl.Node
		for i := range count {
			supers := []string{numbered("K", i+1)}
			if i == count-1 {
				supers = nil
				if back >= 0 {
					supers = []string{numbered("K", back)}
				}
			}
			decls = append(decls, classNode(numbered("K", i), supers))
		}
		for _, turned := range []bool{false, true} {
			first := max(back, 0)
			if turned {
				slices.Reverse(decls)
				first = count - 1
			}
			got := impl.TableOf([]impl.Node{defining("M", decls...)})
			if back >= 0 {
				if want := fmt.Sprint("?3 M.K", first); resultText(got) != want {
					t.Errorf("back to %d: %s, not %s", back, resultText(got), want)
				}
				continue
			}
			way := impl.SuperPath(got.Tables, "M.K0", numbered("M.K", count-1))
			if got.Code != 0 || len(got.Tables.Classes) != count || len(way) != count-1 || way[0] != "M.K1" || way[count-2] != numbered("M.K", count-1) {
				t.Errorf("code %d, a way of %d", got.Code, len(way))
			}
		}
	}
}

// A line between two rounds has no class that is its own superclass.
func TestLongLineBetweenRounds(t *testing.T) {
	const count = 2500
	decls := []impl.Node{}
	for i := range count {
		decls = append(decls, classNode(numbered("K", i), []string{numbered("K", i+1)}))
	}
	decls = append(decls, classNode(numbered("K", count), []string{numbered("K", count)}), classNode("Ahead", []string{"Ahead", "K0"}))
	if got := resultText(impl.TableOf([]impl.Node{defining("M", decls...)})); got != fmt.Sprint("?3 M.K", count) {
		t.Error(got)
	}
}

// Ladders have ways without number, most of which are long; they are gone through once.
func TestLaddersOfClasses(t *testing.T) {
	const count = 1500
	var decls []impl.Node
	for i := range count {
		supers := []string{numbered("K", i+1), numbered("L", i+1)}
		if i == count-1 {
			supers = nil
		}
		decls = append(decls, classNode(numbered("K", i), supers), classNode(numbered("L", i), slices.Clone(supers)))
	}
	list := []impl.Node{defining("A", decls[:1200]...), defining("B", decls[1200:2400]...), defining("C", decls[2400:]...)}
	list[0].Kids = slices.Insert(list[0].Kids, 1, tree(impl.DImport, "B"))
	list[1].Kids = slices.Insert(list[1].Kids, 1, tree(impl.DImport, "C"))
	got := impl.TableOf(list)
	if got.Code != 0 || len(got.Tables.Classes) != 2*count {
		t.Fatalf("code %d %s", got.Code, got.Name)
	}
	way := impl.SuperPath(got.Tables, "A.L0", "C.L1499")
	if len(way) != count-1 || way[0] != "A.K1" || way[count-3] != "C.K1498" || way[count-2] != "C.L1499" {
		t.Errorf("a way of %d, %v .. %v", len(way), way[:2], way[len(way)-2:])
	}
}

// Many variables, constructors and fields; a context for all variables; many methods, and all of them in an instance.
func TestLargeDeclarations(t *testing.T) {
	const count = 3000
	data := tree(impl.DData, "T", tree(impl.DNames, ""), tree(impl.DConstr, "C"))
	held := tree(impl.TApp, "", tree(impl.TCon, "T"))
	var bounds []impl.Node
	for i := range count {
		data.Kids[0].Kids = append(data.Kids[0].Kids, tree(impl.DItem, numbered("v", i)))
		data.Kids[1].Kids = append(data.Kids[1].Kids, tree(impl.TVar, numbered("v", count-1-i)))
		held.Kids = append(held.Kids, tree(impl.TVar, numbered("w", i)))
		bounds = append(bounds, bound("L", numbered("w", count-1-i)))
	}
	data.Kids = append(data.Kids, tree(impl.DNames, ""))
	second := tree(impl.DModule, "B", tree(impl.DNames, "all"), tree(impl.DImport, "A"), instNode("L", held, bounds...))
	third := tree(impl.DModule, "C", tree(impl.DNames, "all"), tree(impl.DImport, "A"), instNode("K", held))
	for i := range count {
		third.Kids[2].Kids[0].Kids = append(third.Kids[2].Kids[0].Kids, bound("K", numbered("w", i)))
	}
	list := []impl.Node{third, second, defining("A", data, classNode("K", nil), classNode("L", []string{"K"}))}
	got := impl.TableOf(list)
	con, inst, lower := impl.FindCon(got.Tables, "A.C"), impl.FindInst(got.Tables, "A.L", "A.T"), impl.FindInst(got.Tables, "A.K", "A.T")
	if got.Code != 0 || con.Vars != count || con.Fields[1].Id != count-2 || inst.Vars != count || inst.Preds[2].Id != count-3 || lower.Preds[count-1].Id != count-1 {
		t.Errorf("code %d %s", got.Code, got.Name)
	}
	list[1].Kids[2].Kids[0].Kids = bounds[1:]
	if got := resultText(impl.TableOf(list)); got != "?8 A.K" {
		t.Error(got)
	}
	data.Kids[0].Kids[count-1].Name = "v0"
	if got := resultText(impl.TableOf(list)); got != "?1 A.T" {
		t.Error(got)
	}

	sig := tree(impl.DSig, "", tree(impl.DNames, ""), tree(impl.DContext, ""), tree(impl.TVar, "a"))
	whole := instNode("K", tree(impl.TCon, "Int"))
	for i := range count {
		sig.Kids[0].Kids = append(sig.Kids[0].Kids, tree(impl.DItem, numbered("m", i)))
		whole.Kids = append(whole.Kids, value(numbered("m", count-1-i), tree(impl.NNum, "1")))
	}
	got = impl.TableOf([]impl.Node{defining("M", whole, classNode("K", nil, sig))})
	if got.Code != 0 || len(got.Tables.Methods) != count || got.Tables.Methods[7].Name != "M.m7" {
		t.Errorf("code %d %s", got.Code, got.Name)
	}
	whole.Kids = slices.Delete(whole.Kids, 10, 11)
	if got := resultText(impl.TableOf([]impl.Node{defining("M", whole, classNode("K", nil, sig))})); got != fmt.Sprint("?7 M.m", count-1-8) {
		t.Error(got)
	}
}

// Types as large and as deep as a module may have them.
func TestTablesOfLargeTypes(t *testing.T) {
	deep := tree(impl.TVar, "a")
	for range impl.MaxDeep - 4 {
		deep = tree(impl.TList, "", deep)
	}
	wide := tree(impl.TApp, "", tree(impl.TCon, "W"))
	names := tree(impl.DNames, "")
	for i := range 9000 {
		wide.Kids = append(wide.Kids, tree(impl.TVar, numbered("v", i%50)))
		names.Kids = append(names.Kids, tree(impl.DItem, numbered("x", i)))
	}
	sig := tree(impl.DSig, "", tree(impl.DNames, "", tree(impl.DItem, "m")), tree(impl.DContext, ""), tree(impl.TFun, "", wide, tree(impl.TVar, "a")))
	other := tree(impl.DData, "T", tree(impl.DNames, "", tree(impl.DItem, "a")), tree(impl.DConstr, "D", deep), tree(impl.DNames, ""))
	w := tree(impl.DData, "W", names, tree(impl.DConstr, "E"), tree(impl.DNames, ""))
	got := impl.TableOf([]impl.Node{defining("M", w, classNode("K", nil, sig), other)})
	if got.Code != 0 {
		t.Fatalf("code %d %s", got.Code, got.Name)
	}
	scheme, field := got.Tables.Methods[0].Scheme, impl.FindCon(got.Tables, "M.D").Fields[0]
	if scheme.Count != 51 || len(scheme.Type.Args[0].Args) != 9000 || scheme.Type.Args[0].Args[8999].Id != 50 || impl.TypeFault(scheme.Type) || impl.TypeFault(field) {
		t.Errorf("%d places", scheme.Count)
	}
	if _, levels := typeMeasures(field); levels != impl.MaxDeep-3 {
		t.Errorf("%d levels", levels)
	}
	wide.Kids = append(wide.Kids, tree(impl.TVar, "b"))
	sig.Kids[2] = tree(impl.TFun, "", wide, tree(impl.TVar, "a"))
	if got := resultText(impl.TableOf([]impl.Node{defining("M", w, classNode("K", nil, sig), other)})); got != "?4 M.m" {
		t.Error(got)
	}
}

// Instances of all classes in a line, each of which asks for the last class alone.
func TestInstancesOfLongLines(t *testing.T) {
	const count = 1200
	var decls []impl.Node
	for i := range count {
		var supers []string
		if i > 0 {
			supers = []string{numbered("K", i-1)}
		}
		decls = append(decls, classNode(numbered("K", i), supers), instNode(numbered("K", i), tree(impl.TList, "", tree(impl.TVar, "x")), bound(numbered("K", max(i-1, 0)), "x")))
	}
	got := impl.TableOf([]impl.Node{defining("M", decls...)})
	if got.Code != 0 || len(got.Tables.Insts) != count {
		t.Fatalf("code %d %s", got.Code, got.Name)
	}
	decls[2*count-1].Kids[0].Kids[0].Kids[0].Name = "K7" // of the last one
	if got := resultText(impl.TableOf([]impl.Node{defining("M", decls...)})); got != fmt.Sprint("?8 M.K", count-2) {
		t.Error(got)
	}
}
