package tests

import (
	"fmt"
	"slices"
	"strconv"
	"strings"
	"testing"

	"loop.example/g00017/impl"
)

// defining makes a module of declarations.
func defining(name string, decls ...impl.Node) impl.Node {
	return tree(impl.DModule, name, append([]impl.Node{tree(impl.DNames, "all")}, decls...)...)
}

func value(name string, body impl.Node) impl.Node {
	return tree(impl.DClause, name, tree(impl.NRhs, "", body))
}

// Chains as long as a module may have them, which come out as deep as they are long.
func TestProgramsOfLongChains(t *testing.T) {
	for _, word := range []string{"infixl", "infixr"} {
		fix := tree(impl.DFix, word, tree(impl.NNum, "3"), tree(impl.DNames, "", tree(impl.DItem, "+"), tree(impl.DItem, ":")))
		chain, pattern := tree(impl.NOps, "", tree(impl.NVar, "x")), tree(impl.POps, "", tree(impl.PWild, ""))
		for range 4000 {
			chain.Kids = append(chain.Kids, tree(impl.NVar, "+"), tree(impl.NVar, "x"))
			pattern.Kids = append(pattern.Kids, tree(impl.PCon, ":"), tree(impl.PWild, ""))
		}
		clause := tree(impl.DClause, "f", pattern, tree(impl.NRhs, "", chain))
		got := impl.Resolve([]impl.Node{defining("A", fix, clause, value("x", tree(impl.NNum, "1")), value("+", tree(impl.NVar, "x")))})
		if got.Code != 0 || len(got.Decls) != 3 {
			t.Fatalf("%s: code %d", word, got.Code)
		}
		for i, start := range []impl.Node{got.Decls[0].Kids[1].Kids[0], got.Decls[0].Kids[0]} {
			depth := 0
			for n := start; len(n.Kids) > 0; depth++ {
				sides := n.Kids[len(n.Kids)-2:]
				n = sides[0]
				if word == "infixr" {
					n = sides[1]
				}
			}
			if depth != 4000 {
				t.Errorf("%s %d: %d deep", word, i, depth)
			}
		}
	}
}

// Modules with as many nodes as may be, and as deep.
func TestLargestModules(t *testing.T) {
	list := tree(impl.NList, "")
	for range impl.MaxNodes - 5 {
		list.Kids = append(list.Kids, tree(impl.NVar, "x"))
	}
	full := defining("A", value("x", list))
	if got := checkProgram(t, []impl.Node{full}); impl.NodeCount(full) != impl.MaxNodes || got.Code != 0 || got.Decls[0].Kids[0].Kids[0].Kids[impl.MaxNodes-6].Name != "A.x" {
		t.Errorf("%d nodes: code %d", impl.NodeCount(full), got.Code)
	}
	more := defining("A", value("x", tree(impl.NList, "", append(list.Kids, tree(impl.NVar, "x"))...)))
	if got := checkProgram(t, []impl.Node{more}); got.Code != 1 {
		t.Errorf("one node more: code %d", got.Code)
	}
	x := tree(impl.NVar, "x")
	for name, around := range map[string]func(impl.Node) impl.Node{
		"negative": func(n impl.Node) impl.Node { return tree(impl.NNeg, "", n) },
		"lambda":   func(n impl.Node) impl.Node { return tree(impl.NLam, "", tree(impl.PVar, "x"), n) },
		"let":      func(n impl.Node) impl.Node { return tree(impl.NLet, "", value("x", x), n) },
		"left":     func(n impl.Node) impl.Node { return tree(impl.NLeft, "x", n) },
		"right":    func(n impl.Node) impl.Node { return tree(impl.NRight, "x", n) },
		"chain":    func(n impl.Node) impl.Node { return tree(impl.NOps, "", x, x, n, x, x) },
		"list": func(n impl.Node) impl.Node {
			return tree(impl.NComp, "", n, tree(impl.NGen, "", tree(impl.PVar, "x"), x))
		},
	} {
		n := x
		for impl.NodeFault(around(n)) == 0 {
			n = around(n)
		}
		if got := checkProgram(t, []impl.Node{defining("A", value("x", n))}); got.Code != 1 {
			t.Errorf("too deep %s: code %d", name, got.Code)
		}
		for ; impl.NodeFault(defining("A", value("x", n))) > 0; n = n.Kids[slices.IndexFunc(n.Kids, func(kid impl.Node) bool { return kid.Kind == n.Kind })] {
		}
		if got := checkProgram(t, []impl.Node{defining("A", value("x", n))}); got.Code != 0 {
			t.Errorf("deep %s: code %d", name, got.Code)
		}
	}
	where := tree(impl.NRhs, "", x)
	for range 97 {
		where = tree(impl.NRhs, "", x, tree(impl.DClause, "x", where))
	}
	if got := checkProgram(t, []impl.Node{defining("A", tree(impl.DClause, "x", where))}); got.Code != 0 {
		t.Errorf("deep blocks: code %d", got.Code)
	}
}

// Sections in one another, each with its own look for a name that is free.
func TestLongSections(t *testing.T) {
	wide := tree(impl.NList, "")
	for i := range 6000 {
		wide.Kids = append(wide.Kids, tree(impl.NStr, "s"+strings.Repeat("'", 1+i%40)))
	}
	n := wide
	for range 190 {
		n = tree(impl.NRight, ":", n)
	}
	got := impl.Resolve([]impl.Node{defining("A", value("x", n))})
	if got.Code != 0 {
		t.Fatalf("code %d", got.Code)
	}
	for at := got.Decls[0].Kids[0].Kids[0]; at.Kind == impl.NLam; at = at.Kids[1].Kids[2] {
		if v := at.Kids[0].Name; v != "s"+strings.Repeat("'", 41) {
			t.Fatalf("%q", v)
		}
	}
	all := tree(impl.NList, "")
	for i := range 3000 {
		all.Kids = append(all.Kids, tree(impl.NStr, "s"+strings.Repeat("'", 3000-i)))
	}
	if got := impl.Resolve([]impl.Node{defining("A", value("x", tree(impl.NRight, ":", all)))}); got.Code != 0 || len(got.Decls[0].Kids[0].Kids[0].Kids[0].Name) != 3002 {
		t.Errorf("code %d", got.Code)
	}
}

// Many modules: in a line, all of one, all of those ahead.
func TestManyModules(t *testing.T) {
	const count = 3000
	name := func(i int) string { return "M" + strconv.Itoa(i) }
	line, fan, all := []impl.Node{}, []impl.Node{defining("Z", value("x", tree(impl.NNum, "1")))}, defining("ZZ")
	for i := range count {
		n := defining(name(i), value("x"+strconv.Itoa(i), tree(impl.NVar, "x"+strconv.Itoa(i+1))))
		line = append(line, defining(name(i), append([]impl.Node{tree(impl.DImport, name(i+1))}, n.Kids[1:]...)...))
		fan = append(fan, defining(name(i), tree(impl.DImport, "Z"), value("y", tree(impl.NVar, "x"))))
		all.Kids = append(all.Kids, tree(impl.DImport, name(i)))
	}
	line = append(line, defining(name(count), value("x"+strconv.Itoa(count), tree(impl.NNum, "1"))))
	order, got := impl.ModuleOrder(line), impl.Resolve(line)
	for i := range count + 1 {
		if order[i] != int64(count-i) || got.Decls[i].Name != fmt.Sprintf("M%d.x%d", count-i, count-i) {
			t.Fatalf("%d is %d %s", i, order[i], got.Decls[i].Name)
		}
	}
	all.Kids = append(all.Kids, value("z", tree(impl.NVar, "y")))
	if got := impl.Resolve(append(fan, all)); got.Code != 10 || got.Module != "ZZ" || got.Name != "y" {
		t.Errorf("all of one: %s", programText(got))
	}
	if got := impl.Resolve(fan); got.Code != 0 || len(got.Decls) != count+1 || got.Decls[count].Kids[0].Kids[0].Name != "Z.x" {
		t.Errorf("all of one: code %d", got.Code)
	}
	var ahead []impl.Node
	for i := range 200 {
		n := defining(name(i))
		for j := range i {
			n.Kids = append(n.Kids, tree(impl.DImport, name(j)))
		}
		for j := range 20 {
			n.Kids = append(n.Kids, value(fmt.Sprint("v", i, "x", j), tree(impl.NVar, fmt.Sprint("v", i/2, "x", j))))
		}
		ahead = append(ahead, n)
	}
	slices.Reverse(ahead)
	if got := impl.Resolve(ahead); got.Code != 0 || len(got.Decls) != 4000 || got.Decls[3999].Kids[0].Kids[0].Name != "M99.v99x19" {
		t.Errorf("all ahead: code %d %s %s", got.Code, got.Module, got.Name)
	}
	ahead[199].Kids = append(ahead[199].Kids, tree(impl.DImport, name(7)))
	ahead[199].Kids[1], ahead[199].Kids[len(ahead[199].Kids)-1] = ahead[199].Kids[len(ahead[199].Kids)-1], ahead[199].Kids[1]
	if got := impl.Resolve(ahead); got.Code != 4 {
		t.Errorf("round: code %d", got.Code)
	}
}

// The same again and again: imports, items, exports, of what brings much along; fixities; names in blocks.
func TestMuchOfTheSame(t *testing.T) {
	large := tree(impl.DData, "T", tree(impl.DNames, ""))
	items, again := tree(impl.DNames, ""), tree(impl.DModule, "A", tree(impl.DNames, "all"))
	fixed := tree(impl.DFix, "infixr", tree(impl.NNum, "3"), tree(impl.DNames, ""))
	for i := range 6000 {
		large.Kids = append(large.Kids, tree(impl.DConstr, "C"+strconv.Itoa(i)))
		fixed.Kids[1].Kids = append(fixed.Kids[1].Kids, tree(impl.DItem, "C"+strconv.Itoa(i)))
		items.Kids = append(items.Kids, tree(impl.DItem, "T"))
		again.Kids = append(again.Kids, tree(impl.DImport, "B"))
	}
	large.Kids = append(large.Kids, tree(impl.DNames, ""))
	again.Kids = append(again.Kids, tree(impl.DImport, "B", items), value("x", tree(impl.NOps, "", tree(impl.NCon, "C5999"), tree(impl.NCon, "C1"), tree(impl.NCon, "C2"), tree(impl.NCon, "C3"), tree(impl.NCon, "C4"))))
	got := impl.Resolve([]impl.Node{again, tree(impl.DModule, "B", items, fixed, large)})
	if got.Code != 0 || declText(got.Decls[1]) != "A.x = ( B.C1 B.C5999 ( B.C3 B.C2 B.C4 ) )" {
		t.Errorf("code %d %s", got.Code, got.Name)
	}
	comp := tree(impl.NComp, "", tree(impl.NVar, "x5999"))
	let := tree(impl.NLet, "")
	for i := range 6000 {
		comp.Kids = append(comp.Kids, tree(impl.NGen, "", tree(impl.PVar, "x"+strconv.Itoa(i)), tree(impl.NVar, "x"+strconv.Itoa(max(i-1, 0)))))
		let.Kids = append(let.Kids, value("y", tree(impl.NNum, strconv.Itoa(i))))
	}
	let.Kids = append(let.Kids, tree(impl.NVar, "y"))
	if got := impl.Resolve([]impl.Node{defining("A", value("x0", comp))}); got.Code != 0 || declText(got.Decls[0])[:30] != "A.x0 = [ x5999 | x0 <- A.x0 , " {
		t.Errorf("code %d %s", got.Code, got.Name)
	}
	if got := impl.Resolve([]impl.Node{defining("A", value("x0", let))}); got.Code != 0 || len(got.Decls[0].Kids[0].Kids[0].Kids) != 6001 {
		t.Errorf("code %d %s", got.Code, got.Name)
	}
	sig := tree(impl.DSig, "", tree(impl.DNames, "", tree(impl.DItem, "==")), tree(impl.DContext, ""), tree(impl.TVar, "a"))
	class := tree(impl.DClass, "Eq", tree(impl.DContext, ""), tree(impl.TVar, "a"), sig)
	deep := tree(impl.TVar, "a")
	for range 3000 {
		large.Kids[1].Kids = append(large.Kids[1].Kids, deep)
		large.Kids[len(large.Kids)-1].Kids = append(large.Kids[len(large.Kids)-1].Kids, tree(impl.DItem, "Ord"))
	}
	if got := impl.Resolve([]impl.Node{defining("A", large, class)}); programText(got) != "?9 A Ord" {
		t.Errorf("code %d %s", got.Code, got.Name)
	}
	few := tree(impl.DData, "T", tree(impl.DNames, ""), tree(impl.DConstr, "C", large.Kids[1].Kids...), tree(impl.DNames, ""))
	for range 200 {
		few.Kids[2].Kids = append(few.Kids[2].Kids, tree(impl.DItem, "Eq"))
	}
	few.Kids[1].Kids = few.Kids[1].Kids[:50]
	if got := checkProgram(t, []impl.Node{defining("A", few, class)}); got.Code != 0 || len(got.Decls) != 202 {
		t.Errorf("code %d %s", got.Code, got.Name)
	}
}
