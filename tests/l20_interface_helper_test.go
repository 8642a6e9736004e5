package tests

import (
	"slices"
	"sync"
	"testing"

	"loop.example/g00017/impl"
)

// typedAs has a thing with a type as ty reads it, and preds as predsOf does.
func typedAs(name, text, preds string) impl.Typed {
	return impl.Typed{Name: name, Scheme: impl.Scheme{Count: 9, Preds: predsOf(preds), Type: ty(text)}}
}

// someTyped has types of values of M, and of what is none of these.
func someTyped() []impl.Typed {
	return []impl.Typed{
		typedAs("N.f", "Char", ""),
		typedAs("g", "Char", ""),
		typedAs("M.f", "->{@0 @0}", ""),
		typedAs("M.f", "Char", ""),
		typedAs("M.g", "->{@1 @0}", "L.Eq@1 K.Show@0"),
		typedAs("M.+", "->{Int ->{Int Int}}", ""),
		typedAs("M.!", "->{->{@0 @1} []{M.T{@1}}}", ""),
		typedAs("M.~", "()", ""),
		typedAs("M..", "(,){@3 #3}", ""),
		typedAs("M._x'", "#7", ""),
		typedAs("M.k", "@0", "M.K@0"),
		typedAs("M.:+", "->{Int M.T{Int}}", ""),
		typedAs("M.T", "Int", ""),
		typedAs("M.K", "Int", ""),
		typedAs("M.A", "M.T{@0}", ""),
		typedAs("M.U", "Int", ""),
		typedAs("M.u", "[]{Char}", ""),
		typedAs("M.%%", "Bool", ""),
		{Name: "M.bad", Scheme: impl.Scheme{Count: 1, Preds: predsOf("L.Eq@0")}},
		typedAs("M.bad", "Int", ""),
	}
}

// lineSlowly looks for what an item is about in all that could be it.
func lineSlowly(module impl.Node, name string, types []impl.Typed) string {
	if name[0] >= 'A' && name[0] <= 'Z' {
		for _, d := range module.Kids {
			if d.Kind == impl.DData && d.Name == name {
				return "data " + name + "\n"
			}
			if d.Kind == impl.DClass && d.Name == name {
				return "class " + name + "\n"
			}
		}
		return ""
	}
	at := slices.IndexFunc(types, func(x impl.Typed) bool { return x.Name == module.Name+"."+name })
	if at < 0 || formatSchemeSlowly(types[at].Scheme) == "" {
		return ""
	}
	if isSymbolic(name) {
		name = "(" + name + ")"
	}
	return name + " :: " + formatSchemeSlowly(types[at].Scheme) + "\n"
}

// sharedSlowChecker is made once, as much is asked of it.
var sharedSlowChecker = sync.OnceValue(newSlowChecker)

// interfaceSlowly is a second reading of the chapter; the tree has an end.
func interfaceSlowly(module impl.Node, types []impl.Typed) string {
	if module.Kind != impl.DModule || sharedSlowChecker().fault(module) != 0 {
		return ""
	}
	text := ""
	for _, item := range module.Kids[0].Kids {
		text += lineSlowly(module, item.Name, types)
	}
	if module.Kids[0].Name == "" {
		return text
	}
	for i, d := range module.Kids {
		first := slices.IndexFunc(module.Kids, func(o impl.Node) bool { return o.Kind == impl.DClause && o.Name == d.Name })
		switch {
		case d.Kind == impl.DClause && first == i:
			text += lineSlowly(module, d.Name, types)
		case d.Kind == impl.DData:
			text += "data " + d.Name + "\n"
		case d.Kind == impl.DClass:
			text += "class " + d.Name + "\n"
		}
	}
	return text
}

// checkInterface holds what is told of a module against the second reading.
func checkInterface(t *testing.T, module impl.Node, types []impl.Typed) string {
	t.Helper()
	got, want := impl.Interface(module, types), interfaceSlowly(module, types)
	if got != want {
		t.Errorf("%.1000s\nhas the interface\n%.1000s\nnot\n%.1000s", kinded(module), got, want)
	}
	return got
}

// checkInterfaces compares what is told of modules with texts.
func checkInterfaces(t *testing.T, types []impl.Typed, rows [][2]string) {
	t.Helper()
	for _, row := range rows {
		if got := checkInterface(t, parsed(t, row[0]), types); got != row[1] {
			t.Errorf("%s\nhas the interface\n%s\nnot\n%s", row[0], got, row[1])
		}
	}
}

// exporting makes a module with the exports in their order.
func exporting(name string, items []string, decls ...impl.Node) impl.Node {
	exports := tree(impl.DNames, "")
	for _, item := range items {
		exports.Kids = append(exports.Kids, tree(impl.DItem, item))
	}
	return tree(impl.DModule, name, append([]impl.Node{exports}, decls...)...)
}

// dataNamed declares a data with one constructor that has no fields.
func dataNamed(name, constructor string) impl.Node {
	return tree(impl.DData, name, tree(impl.DNames, ""), tree(impl.DConstr, constructor), tree(impl.DNames, ""))
}
