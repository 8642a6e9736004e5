package tests

import (
	"fmt"
	"math/rand/v2"
	"slices"
	"strings"
	"testing"

	"loop.example/g00017/impl"
)

// A declMaker draws modules whose tables have no fault, and spoils them.
type declMaker struct {
	*rand.Rand
	datas   []impl.DataInfo
	classes []impl.ClassInfo
	insts   []impl.InstInfo
}

func (m *declMaker) one(names ...string) string { return names[m.IntN(len(names))] }

// typ draws a type of variables.
func (m *declMaker) typ(levels int, variables []string) string {
	if levels > 1 && m.IntN(3) > 0 {
		data := m.datas[m.IntN(len(m.datas))]
		var args []string
		for range data.Vars {
			args = append(args, m.typ(levels-1, variables))
		}
		return typeTree(data.Name, args)
	}
	if len(variables) > 0 && m.IntN(3) > 0 {
		return m.one(variables...)
	}
	return m.one("Int", "Bool", "Char")
}

// typeTree writes a data with its arguments.
func typeTree(name string, args []string) string {
	switch {
	case name == "[]":
		return "[ " + args[0] + " ]"
	case name == "->":
		return "( " + args[0] + " -> " + args[1] + " )"
	case strings.HasPrefix(name, "("):
		return "( " + strings.Join(args, " , ") + " )"
	case len(args) == 0:
		return name
	}
	return "( " + name + " " + strings.Join(args, " ") + " )"
}

func (m *declMaker) variables(count int64) []string {
	names := []string{"a", "b", "c", "d", "e", "f", "g"}
	m.Shuffle(len(names), func(i, j int) { names[i], names[j] = names[j], names[i] })
	return names[:count]
}

func (m *declMaker) data(d impl.DataInfo) string {
	variables := m.variables(d.Vars)
	var cons []string
	for i := range 1 + m.IntN(3) {
		con := fmt.Sprint("C", d.Name, i)
		for range m.IntN(3) {
			con += " " + m.typ(3, variables)
		}
		cons = append(cons, con)
	}
	return glue("data", d.Name, strings.Join(variables, " "), "=", strings.Join(cons, " | "))
}

func contextWith(preds []string) string {
	if len(preds) == 0 {
		return ""
	}
	return "( " + strings.Join(preds, " , ") + " ) =>"
}

func (m *declMaker) class(c impl.ClassInfo) string {
	variable := m.variables(1)[0]
	var supers, sigs []string
	for _, super := range c.Supers {
		supers = append(supers, super+" "+variable)
	}
	for _, method := range c.Methods {
		other := "v" + variable
		context := contextWith(nil)
		if m.IntN(2) == 0 {
			context = contextWith([]string{m.classes[m.IntN(len(m.classes))].Name + " " + other})
		}
		sigs = append(sigs, glue(method, "::", context, m.typ(2, []string{other, variable}), "->", other, "->", m.typ(2, []string{variable}), "->", variable))
	}
	return glue("class", contextWith(supers), c.Name, variable, "where {", strings.Join(sigs, " ; "), "}")
}

// instance draws an instance, with those of its superclasses ahead, if there is none yet; preds hold what those of superclasses ask for.
func (m *declMaker) instance(class impl.ClassInfo, data impl.DataInfo) []string {
	if slices.ContainsFunc(m.insts, func(i impl.InstInfo) bool { return i.Class == class.Name && i.Con == data.Name }) {
		return nil
	}
	var decls, preds, clauses []string
	inst := impl.InstInfo{Class: class.Name, Con: data.Name, Vars: data.Vars}
	for _, super := range class.Supers {
		at := slices.IndexFunc(m.classes, func(c impl.ClassInfo) bool { return c.Name == super })
		decls = append(decls, m.instance(m.classes[at], data)...)
		for _, i := range m.insts {
			if i.Class == super && i.Con == data.Name {
				inst.Preds = append(inst.Preds, i.Preds...)
			}
		}
	}
	for range m.IntN(2) {
		if data.Vars > 0 && len(m.classes) > 0 {
			inst.Preds = append(inst.Preds, impl.Pred{Class: m.classes[m.IntN(len(m.classes))].Name, Id: m.Int64N(data.Vars)})
		}
	}
	for i, p := range inst.Preds { // a class below does as well
		if below := m.classes[m.IntN(len(m.classes))]; slices.Contains(below.Supers, p.Class) && m.IntN(2) == 0 {
			inst.Preds[i].Class = below.Name
		}
	}
	m.Shuffle(len(inst.Preds), func(i, j int) { inst.Preds[i], inst.Preds[j] = inst.Preds[j], inst.Preds[i] })
	m.insts = append(m.insts, inst)
	variables := m.variables(data.Vars)
	for _, p := range inst.Preds {
		preds = append(preds, p.Class+" "+variables[p.Id])
	}
	for _, method := range class.Methods {
		clauses = append(clauses, method+" = 1")
	}
	m.Shuffle(len(clauses), func(i, j int) { clauses[i], clauses[j] = clauses[j], clauses[i] })
	return append(decls, glue("instance", contextWith(preds), class.Name, typeTree(data.Name, variables), "where {", strings.Join(clauses, " ; "), "}"))
}

// modules draws some modules, each of which imports all ahead of it.
func (m *declMaker) modules(t *testing.T) []impl.Node {
	m.datas, m.classes, m.insts = slowBuiltins().Datas, nil, nil
	var list []impl.Node
	for i := range 1 + m.IntN(3) {
		var imports, decls []string
		for _, n := range list {
			imports = append(imports, "import "+n.Name)
		}
		datas, classes := len(m.datas), len(m.classes)
		for k := range 1 + m.IntN(3) {
			m.datas = append(m.datas, impl.DataInfo{Name: fmt.Sprintf("T%d%d", i, k), Vars: m.Int64N(4)})
		}
		for k := range 1 + m.IntN(4) {
			c := impl.ClassInfo{Name: fmt.Sprintf("K%d%d", i, k)}
			for _, other := range m.classes {
				if m.IntN(3) == 0 {
					c.Supers = append(c.Supers, other.Name)
				}
			}
			for j := range m.IntN(3) {
				c.Methods = append(c.Methods, fmt.Sprintf("m%d%d%d", i, k, j))
			}
			m.Shuffle(len(c.Supers), func(i, j int) { c.Supers[i], c.Supers[j] = c.Supers[j], c.Supers[i] })
			m.classes = append(m.classes, c)
		}
		for _, d := range m.datas[datas:] {
			decls = append(decls, m.data(d))
		}
		for _, c := range m.classes[classes:] {
			decls = append(decls, m.class(c))
		}
		for range m.IntN(4) {
			decls = append(decls, m.instance(m.classes[m.IntN(len(m.classes))], m.datas[m.IntN(len(m.datas))])...)
		}
		m.Shuffle(len(decls), func(i, j int) { decls[i], decls[j] = decls[j], decls[i] })
		list = append(list, parsed(t, fmt.Sprintf("module %c where { %s }", 'A'+i, strings.Join(append(imports, decls...), " ; "))))
	}
	m.Shuffle(len(list), func(i, j int) { list[i], list[j] = list[j], list[i] })
	return list
}

// name draws one that stands for a type or class in a module: A knows those with 0, B those with 1 too, and so on.
func (m *declMaker) name(module string) string {
	known := []string{"Int"}
	for _, c := range m.classes {
		known = append(known, c.Name, c.Name)
	}
	for _, d := range m.datas {
		known = append(known, d.Name)
	}
	return m.one(slices.DeleteFunc(known, func(name string) bool {
		return name[0] < 'A' || name[0] > 'Z' || name[1] >= '0' && name[1] <= '9' && name[1]-'0' > module[0]-'A'
	})...)
}

// otherType draws a type that may be none.
func (m *declMaker) otherType(module string) impl.Node {
	a, con := tree(impl.TVar, m.one("a", "b", "q")), tree(impl.TCon, m.name(module))
	return []impl.Node{
		a, con, tree(impl.TApp, "", con, a), tree(impl.TApp, "", a, con), tree(impl.TApp, "", tree(impl.TApp, "", con, a), a), tree(impl.TFun, "", a, con), tree(impl.TFun, "", a, tree(impl.TVar, "c")),
		tree(impl.TList, "", con), tree(impl.TList, "", a), tree(impl.TTuple, "", a, con), tree(impl.TTuple, ""), tree(impl.TTuple, "", con, a, a, a, a, a, a, con), tree(impl.TApp, "", con, a, tree(impl.TVar, "b")),
	}[m.IntN(13)]
}

// spoil changes something in one of the declarations of modules.
func (m *declMaker) spoil(list []impl.Node) {
	at := m.IntN(len(list))
	module := list[at]
	tops := slices.DeleteFunc(slices.Collect(rangeOf(len(module.Kids))), func(i int) bool {
		return !slices.Contains([]int64{impl.DData, impl.DClass, impl.DInst}, module.Kids[i].Kind)
	})
	if len(tops) == 0 {
		return
	}
	i := tops[m.IntN(len(tops))]
	d := cloneTree(module.Kids[i])
	list[at] = cloneTree(module)
	context := slices.IndexFunc(d.Kids, func(n impl.Node) bool { return n.Kind == impl.DContext })
	switch choice := m.IntN(9); {
	case choice == 0 && d.Kind == impl.DInst:
		list[at].Kids = slices.Insert(list[at].Kids, i, d)
		return
	case choice <= 1 && d.Kind == impl.DInst:
		list[at].Kids = slices.Delete(list[at].Kids, i, i+1)
		return
	case choice <= 3 && context >= 0:
		bound := tree(impl.TApp, "", tree(impl.TCon, m.name(module.Name)), tree(impl.TVar, m.variableOf(d)))
		if bounds := d.Kids[context].Kids; len(bounds) > 0 && m.IntN(2) == 0 {
			d.Kids[context].Kids = slices.Delete(bounds, 0, 1)
		} else {
			d.Kids[context].Kids = append(bounds, bound)
		}
	case choice == 4 && d.Kind == impl.DInst && len(d.Kids) > 2:
		d.Kids = slices.Delete(d.Kids, 2, 3)
	case choice <= 5 && d.Kind == impl.DInst:
		class := m.classes[m.IntN(len(m.classes))]
		if len(class.Methods) > 0 {
			d.Kids = append(d.Kids, value(class.Methods[0], tree(impl.NNum, "2")))
		}
	case choice <= 5 && d.Kind == impl.DData:
		d.Kids[0].Kids = append(d.Kids[0].Kids, tree(impl.DItem, m.one("a", "b", "c", "x")))
	default:
		d = m.changedType(d, module.Name)
	}
	list[at].Kids[i] = d
}

// variableOf draws one of the variables in a tree, or another one.
func (m *declMaker) variableOf(d impl.Node) string {
	names := []string{"q"}
	eachNode(d, func(n impl.Node) {
		if n.Kind == impl.TVar {
			names = append(names, n.Name)
		}
	})
	return m.one(names...)
}

// changedType changes one of the types in a declaration; in contexts, and of the variable of a class, the name alone.
func (m *declMaker) changedType(d impl.Node, module string) impl.Node {
	count, chosen := 0, -1
	var walk func(n impl.Node, nameAlone bool) impl.Node
	walk = func(n impl.Node, nameAlone bool) impl.Node {
		own := tree(n.Kind, n.Name)
		for _, kid := range n.Kids {
			own.Kids = append(own.Kids, walk(kid, nameAlone || n.Kind == impl.DContext || n.Kind == impl.DClass && kid.Kind == impl.TVar))
		}
		if n.Kind < impl.TVar || n.Kind > impl.TList || nameAlone && n.Kind == impl.TApp {
			return own
		}
		count++
		switch {
		case count != chosen:
			return own
		case n.Kind == impl.TVar && (nameAlone || m.IntN(3) > 0):
			return tree(impl.TVar, m.variableOf(d))
		case n.Kind == impl.TCon && (nameAlone || m.IntN(3) > 0):
			return tree(impl.TCon, m.name(module))
		}
		return m.otherType(module)
	}
	walk(d, false)
	count, chosen = 0, 1+m.IntN(max(count, 1))
	return walk(d, false)
}

func rangeOf(count int) func(func(int) bool) {
	return func(yield func(int) bool) {
		for i := range count {
			if !yield(i) {
				return
			}
		}
	}
}

// Drawn modules, without faults and with more and more of them, held against the second reading.
func TestDrawnTables(t *testing.T) {
	t.Parallel()
	m := &declMaker{Rand: rand.New(rand.NewPCG(9, 2))}
	codes := map[int64]int{}
	for range 600 {
		list := m.modules(t)
		if got := checkTables(t, list); got.Code != 0 || len(got.Tables.Insts) != len(m.insts) {
			t.Fatalf("%s: %s", strings.Join(textsOf(list, kinded), "\n"), resultText(got))
		}
		for range 5 {
			m.spoil(list)
			codes[checkTables(t, list).Code]++
		}
	}
	for code, least := range map[int64]int{0: 300, 1: 300, 2: 200, 3: 50, 4: 100, 5: 100, 6: 40, 7: 25, 8: 25} {
		if codes[code] < least {
			t.Errorf("codes %v", codes)
			break
		}
	}
}

// What a fault is told of alone stays the fault, however modules are given, if they are the only ones that have one.
func TestDrawnTablesInEachOrder(t *testing.T) {
	t.Parallel()
	m := &declMaker{Rand: rand.New(rand.NewPCG(9, 3))}
	for round := range 300 {
		list := m.modules(t)
		if round%2 == 0 {
			m.spoil(list)
		}
		want := impl.TableOf(list)
		inEachOrder(list, func(other []impl.Node) {
			got := impl.TableOf(other) // imports tell the whole order
			if resultText(got) != resultText(want) {
				t.Errorf("%s\nin another order than\n%s", resultText(got), resultText(want))
			}
		})
	}
}
