package tests

import (
	"runtime/debug"
	"slices"
	"strings"
	"testing"

	"loop.example/g00017/impl"
)

// manyTyped has types for values v0, v1 .. of a module, the last one first.
func manyTyped(module string, count int, text string) []impl.Typed {
	var types []impl.Typed
	for i := range count {
		types = append(types, typedAs(module+"."+numbered("v", count-1-i), text, ""))
	}
	return types
}

// manyLines has a line for each of so many values, the first one first.
func manyLines(count int, text string) string {
	var lines strings.Builder
	for i := range count {
		lines.WriteString(numbered("v", i) + " :: " + text + "\n")
	}
	return lines.String()
}

// checkLong compares long texts.
func checkLong(t *testing.T, what string, got, want string) {
	t.Helper()
	if got != want {
		at := 0
		for at < min(len(got), len(want)) && got[at] == want[at] {
			at++
		}
		t.Errorf("%s: from %d on %.100q, not %.100q", what, at, got[at:], want[at:])
	}
}

// As many values as a module may have, declared or exported, and far more types.
func TestInterfacesOfManyValues(t *testing.T) {
	const declared, exported = (impl.MaxNodes - 2) / 3, impl.MaxNodes - 2
	types := slices.Concat(manyTyped("N", 20000, "Char"), manyTyped("M", 30000, "->{@0 @0}"), manyTyped("M", 30000, "Int"), manyTyped("M2", 20000, "Char"))
	all := defining("M")
	for i := range declared {
		all.Kids = append(all.Kids, value(numbered("v", i), tree(impl.NNum, "1")))
	}
	checkLong(t, "declared", impl.Interface(all, types), manyLines(declared, "a -> a"))
	some := exporting("M", nil)
	for i := range exported {
		some.Kids[0].Kids = append(some.Kids[0].Kids, tree(impl.DItem, numbered("v", i)))
	}
	checkLong(t, "exported", impl.Interface(some, types), manyLines(exported, "a -> a"))
	if len(types) != 100000 || impl.NodeCount(all) != impl.MaxNodes || impl.NodeCount(some) != impl.MaxNodes {
		t.Errorf("%d types, %d and %d nodes", len(types), impl.NodeCount(all), impl.NodeCount(some))
	}
	some.Kids[0].Kids = append(some.Kids[0].Kids, tree(impl.DItem, "v0"))
	checkLong(t, "one more", impl.Interface(some, types), "")
}

// One value of many clauses, and one item again and again.
func TestInterfacesOfMuchOfTheSame(t *testing.T) {
	types := manyTyped("M", 2, "[]{@0}")
	again := defining("M")
	for i := range (impl.MaxNodes - 2) / 3 {
		again.Kids = append(again.Kids, value(numbered("v", min(i%1000, 1)), tree(impl.NNum, "1")))
	}
	checkLong(t, "clauses", impl.Interface(again, types), "v0 :: [a]\nv1 :: [a]\n")
	const count = impl.MaxNodes - 2 - 4
	items := slices.Repeat([]string{"v1", "T", "nothing", "Nowhere"}, count/4)
	checkLong(t, "items", impl.Interface(exporting("M", items, dataNamed("T", "A")), types), strings.Repeat("v1 :: [a]\ndata T\n", count/4))
	datas := slices.Repeat([]impl.Node{dataNamed("T", "A")}, (impl.MaxNodes-2)/4)
	checkLong(t, "datas", impl.Interface(defining("M", datas...), types), strings.Repeat("data T\n", len(datas)))
}

// All types have one name, or names that differ at their ends alone.
func TestInterfacesOfTypesOfOneName(t *testing.T) {
	types := slices.Repeat([]impl.Typed{typedAs("M.f", "Char", "")}, 100000)
	types[0] = typedAs("M.f", "Int", "")
	module := exporting("M", []string{"f", "g", "f"})
	checkLong(t, "one name", impl.Interface(module, types), "f :: Int\nf :: Int\n")
	types[0] = impl.Typed{Name: "M.f"}
	checkLong(t, "a fault", impl.Interface(module, types), "")
	ahead := strings.Repeat("x", 5000)
	types[0] = typedAs("M.f", "Bool", "")
	for i := range types {
		types[i].Name = "M." + ahead
	}
	types[50000].Name, types[99999].Name = "M."+ahead+"y", "M."+ahead+"'"
	checkLong(t, "long ones", impl.Interface(exporting("M", []string{ahead + "'", ahead, ahead + "z", ahead + "y"}), types), ahead+"' :: Char\n"+ahead+" :: Bool\n"+ahead+"y :: Char\n")
}

// Names as long as a token may be, and types with names that are longer by far.
func TestInterfacesOfLongNames(t *testing.T) {
	const most = impl.MaxSource
	name, con, operator := strings.Repeat("n", most), strings.Repeat("C", most), strings.Repeat("+", most)
	types := []impl.Typed{{Name: con + "." + name + "n"}, typedAs(con+"."+name, "Int", ""), typedAs(con+"."+operator, con+".T{"+con+" @0}", con+".K@0"), typedAs(strings.Repeat(con, 100)+"."+name, "Char", "")}
	module := exporting(con, []string{name, con, operator, name[1:]}, dataNamed(con, con))
	checkLong(t, "long names", impl.Interface(module, types), name+" :: Int\ndata "+con+"\n("+operator+") :: (K a) => T "+con+" a\n")
	checkLong(t, "declared", impl.Interface(defining(con, value(operator, tree(impl.NNum, "1")), dataNamed(con, con), value(name, tree(impl.NNum, "1"))), types), "("+operator+") :: (K a) => T "+con+" a\ndata "+con+"\n"+name+" :: Int\n")
	for _, longer := range []impl.Node{exporting(con, []string{name + "n"}), exporting(con+"C", []string{name}), exporting(con, nil, dataNamed(con+"C", "A"))} {
		checkLong(t, "too long", impl.Interface(longer, types), "")
	}
	far := strings.Repeat("n", 1<<24)
	types = slices.Repeat([]impl.Typed{typedAs("M."+far, "Int", ""), typedAs("M."+name, "Char", ""), typedAs(far+".f", "Int", "")}, 30000)
	types = append(types, typedAs("M.f", "A."+far+"{"+far+"}", ""))
	checkLong(t, "far longer", impl.Interface(exporting("M", []string{"f", name}), types), "f :: "+far+" "+far+"\n"+name+" :: Char\n")
}

// Many values with types as large and as deep as may be, or just more.
func TestInterfacesOfLargeTypes(t *testing.T) {
	const count = 160
	wide, deep := wideType(impl.MaxNodes), nested(impl.MaxDeep-1, typePlace(0))
	var types []impl.Typed
	var items []string
	var want strings.Builder
	for i := range count {
		one := []impl.Type{wide, deep, wideType(impl.MaxNodes + 1), nested(1, deep)}[i%4]
		x := impl.Typed{Name: numbered("M.v", i), Scheme: impl.Scheme{Count: 1, Preds: predsOf("K@0"), Type: one}}
		types, items = append(types, x), append(items, numbered("v", i))
		switch i % 4 {
		case 0:
			want.WriteString(items[i] + " :: (K ?) => W" + strings.Repeat(" Int", impl.MaxNodes-1) + "\n")
		case 1:
			want.WriteString(items[i] + " :: (K a) => " + strings.Repeat("[", impl.MaxDeep-1) + "a" + strings.Repeat("]", impl.MaxDeep-1) + "\n")
		}
	}
	checkLong(t, "large types", impl.Interface(exporting("M", items), types), want.String())
}

// A type with many preds is written soon.
func TestInterfacesOfManyPreds(t *testing.T) {
	preds := slices.Repeat(predsOf("L.K@0 K2@5"), 100000)
	types := []impl.Typed{{Name: "M.f", Scheme: impl.Scheme{Preds: preds, Type: ty("->{@0 @1}")}}}
	checkLong(t, "preds", impl.Interface(exporting("M", []string{"f"}), types), "f :: (K a, "+strings.Repeat("K2 ?, K a, ", 99999)+"K2 ?) => a -> b\n")
}

// Deep modules and types do not need a deep stack.
func TestInterfacesOnASmallStack(t *testing.T) {
	defer debug.SetMaxStack(debug.SetMaxStack(smallStack))
	module := defining("M", value("f", deepTree(impl.MaxDeep-3, tree(impl.NNum, "1"))), value("g", tree(impl.NNum, "1")))
	types := []impl.Typed{{Name: "M.f", Scheme: impl.Scheme{Type: nested(impl.MaxDeep-1, typeVar(0))}}, {Name: "M.g", Scheme: impl.Scheme{Type: nested(500000, typeVar(0))}}}
	checkLong(t, "deep", impl.Interface(module, types), "f :: "+strings.Repeat("[", impl.MaxDeep-1)+"a"+strings.Repeat("]", impl.MaxDeep-1)+"\n")
	checkLong(t, "far too deep", impl.Interface(defining("M", value("f", deepTree(500000, tree(impl.NNum, "1")))), types), "")
}
