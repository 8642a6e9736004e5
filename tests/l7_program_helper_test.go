package tests

import (
	"regexp"
	"slices"
	"strconv"
	"strings"
	"testing"

	"loop.example/g00017/impl"
)

// A slowFault ends the second reading of Resolve.
type slowFault struct {
	code         int64
	module, name string
}

// A slowEntry is one thing at the top of a module; with is the type or class along with which it comes.
type slowEntry struct {
	space, own, full, with string
}

// A slowModule has its things in order, those that it exports, and those that its names may stand for.
type slowModule struct {
	node                   impl.Node
	tops, offered, visible []slowEntry
	program                map[string]*slowModule
}

// ownSlowly is a second reading of what an own name is.
func ownSlowly(text string) string {
	parts := regexp.MustCompile(`(?s)\A([A-Z][A-Za-z0-9_']*)\.(.+)\z`).FindStringSubmatch(text)
	if parts == nil || len(parts[1]) > impl.MaxSource {
		return text
	}
	return parts[2]
}

func kidsOf(n impl.Node, kinds ...int64) []impl.Node {
	var kids []impl.Node
	for _, kid := range n.Kids {
		if slices.Contains(kinds, kid.Kind) {
			kids = append(kids, kid)
		}
	}
	return kids
}

// moduleOrderSlowly looks again and again for the first module that can come next.
func moduleOrderSlowly(list []impl.Node) []int64 {
	var order []int64
	places := map[string]int{}
	for i, n := range list {
		if _, twice := places[n.Name]; twice || n.Kind != impl.DModule {
			return nil
		}
		places[n.Name] = i
	}
	for range list {
		next := slices.IndexFunc(list, func(n impl.Node) bool {
			return !slices.Contains(order, int64(places[n.Name])) && !slices.ContainsFunc(kidsOf(n, impl.DImport), func(d impl.Node) bool {
				at, known := places[d.Name]
				return !known || !slices.Contains(order, int64(at))
			})
		})
		if next < 0 {
			return nil
		}
		order = append(order, int64(next))
	}
	return order
}

// resolveSlowly is a second reading of Resolve: names are looked for in lists, and the first fault is a panic.
func resolveSlowly(list []impl.Node) (result impl.ProgramResult) {
	defer func() {
		caught := recover()
		if fault, ok := caught.(slowFault); ok {
			result = impl.ProgramResult{Code: fault.code, Module: fault.module, Name: fault.name}
		} else if caught != nil {
			panic(caught)
		}
	}()
	for _, n := range list {
		if n.Kind != impl.DModule || impl.NodeFault(n) != 0 {
			panic(slowFault{1, "", ""})
		}
	}
	var names []string
	for _, n := range list {
		if slices.Contains(names, n.Name) {
			panic(slowFault{2, n.Name, ""})
		}
		names = append(names, n.Name)
	}
	for _, n := range list {
		for _, d := range kidsOf(n, impl.DImport) {
			if !slices.Contains(names, d.Name) {
				panic(slowFault{3, n.Name, d.Name})
			}
		}
	}
	order := moduleOrderSlowly(list)
	if len(order) != len(list) {
		panic(slowFault{4, "", ""})
	}
	program := map[string]*slowModule{}
	for _, at := range order {
		m := &slowModule{node: list[at], program: program}
		program[m.node.Name] = m
		result.Decls = append(result.Decls, m.resolve()...)
	}
	return result
}

func (m *slowModule) fail(code int64, name string) { panic(slowFault{code, m.node.Name, name}) }

func (m *slowModule) resolve() []impl.Node {
	m.define()
	m.export()
	m.see()
	ordered := orderSlowly(m.node, m.table())
	if ordered.Code != 0 {
		m.fail(8, ordered.Name)
	}
	decls := ordered.Tree.Kids[1:]
	m.odds(decls)
	var list []impl.Node
	for _, d := range decls {
		list = append(list, m.top(d)...)
	}
	return list
}

// define puts signatures in a space of their own, so that two of them are as two of anything else.
func (m *slowModule) define() {
	name := m.node.Name
	for i, d := range m.node.Kids {
		var made []slowEntry
		add := func(space, own, with string) {
			made = append(made, slowEntry{space, own, name + "." + own, with})
		}
		switch d.Kind {
		case impl.DClause:
			if ahead := m.node.Kids[i-1]; ahead.Kind != impl.DClause || ahead.Name != d.Name {
				add("value", d.Name, "")
			}
		case impl.DSig:
			for _, item := range d.Kids[0].Kids {
				add("signature", item.Name, "")
			}
		case impl.DData:
			add("type", d.Name, "")
			for _, c := range kidsOf(d, impl.DConstr) {
				add("constructor", c.Name, d.Name)
			}
		case impl.DClass:
			add("type", d.Name, "")
			for _, sig := range kidsOf(d, impl.DSig) {
				for _, item := range sig.Kids[0].Kids {
					add("value", item.Name, d.Name)
				}
			}
		}
		for _, e := range made {
			if slices.ContainsFunc(m.tops, func(o slowEntry) bool { return o.space == e.space && o.own == e.own }) {
				m.fail(5, e.own)
			}
			m.tops = append(m.tops, e)
		}
	}
}

// chosen has what an item stands for among things, with all that comes along.
func chosen(things []slowEntry, item string) []slowEntry {
	space := "value"
	if item[0] >= 'A' && item[0] <= 'Z' {
		space = "type"
	}
	var list []slowEntry
	for _, e := range things {
		if e.space == space && e.own == item {
			list = append(list, e)
		}
	}
	for _, e := range things {
		if len(list) > 0 && space == "type" && e.with == item {
			list = append(list, e)
		}
	}
	return list
}

func (m *slowModule) export() {
	exports := m.node.Kids[0]
	if exports.Name == "all" {
		m.offered = m.tops
		return
	}
	for _, item := range exports.Kids {
		brought := chosen(m.tops, item.Name)
		if brought == nil {
			m.fail(6, item.Name)
		}
		m.offered = append(m.offered, brought...)
	}
}

func (m *slowModule) see() {
	m.visible = slices.Clone(m.tops)
	for space, names := range map[string]string{"type": "Int Char Bool", "constructor": "False True :", "value": "primAdd primSub primMul primDiv primMod primEq primLess primOrd primChr primShow primAppend primSeq primError negate"} {
		for _, name := range strings.Fields(names) {
			m.visible = append(m.visible, slowEntry{space, name, name, ""})
		}
	}
	for _, d := range kidsOf(m.node, impl.DImport) {
		offered := m.program[d.Name].offered
		if len(d.Kids) == 0 {
			m.visible = append(m.visible, offered...)
			continue
		}
		for _, item := range d.Kids[0].Kids {
			brought := chosen(offered, item.Name)
			if brought == nil {
				m.fail(7, item.Name)
			}
			m.visible = append(m.visible, brought...)
		}
	}
}

func (m *slowModule) table() []impl.Fixity {
	var table []impl.Fixity
	for _, d := range kidsOf(m.node, impl.DImport) {
		from := m.program[d.Name]
		for _, fix := range kidsOf(from.node, impl.DFix) {
			for _, item := range fix.Kids[1].Kids {
				if slices.ContainsFunc(from.offered, func(e slowEntry) bool {
					return e.own == item.Name && (e.space == "value" || e.space == "constructor")
				}) {
					side := map[string]int64{"infix": 0, "infixl": 1, "infixr": 2}[fix.Name]
					level, _ := strconv.ParseInt(fix.Kids[0].Name, 10, 64)
					table = append(table, fixity(item.Name, side, level))
				}
			}
		}
	}
	return table
}

// find has what a name stands for at the top.
func (m *slowModule) find(space, own string) slowEntry {
	var found []slowEntry
	for _, e := range m.visible {
		if e.space == space && e.own == own && !slices.ContainsFunc(found, func(o slowEntry) bool { return o.full == e.full }) {
			found = append(found, e)
		}
	}
	switch len(found) {
	case 0:
		m.fail(9, own)
	case 1:
		return found[0]
	}
	m.fail(10, own)
	return slowEntry{}
}

// odds looks for what 12 is about, signatures first.
func (m *slowModule) odds(decls []impl.Node) {
	var signed []string
	for _, d := range decls {
		if d.Kind != impl.DSig {
			continue
		}
		for _, item := range d.Kids[0].Kids {
			isHere := func(o impl.Node) bool { return o.Kind == impl.DClause && o.Name == item.Name }
			if slices.Contains(signed, item.Name) || !slices.ContainsFunc(decls, isHere) {
				m.fail(12, item.Name)
			}
			signed = append(signed, item.Name)
		}
	}
	for i, d := range decls {
		for j := range i {
			if d.Kind != impl.DClause || decls[j].Kind != impl.DClause || decls[j].Name != d.Name {
				continue
			}
			together := !slices.ContainsFunc(decls[j:i], func(o impl.Node) bool { return o.Kind != impl.DClause || o.Name != d.Name })
			if !together || len(decls[j].Kids) != len(d.Kids) {
				m.fail(12, d.Name)
			}
		}
	}
}

func (m *slowModule) top(d impl.Node) []impl.Node {
	full := m.node.Name + "." + d.Name
	switch d.Kind {
	case impl.DClause:
		return []impl.Node{m.clause(d, full, nil)}
	case impl.DSig:
		return []impl.Node{m.signature(d, m.node.Name+".")}
	case impl.DClass:
		kids := []impl.Node{m.types(d.Kids[0]), d.Kids[1]}
		for _, sig := range d.Kids[2:] {
			kids = append(kids, m.signature(sig, m.node.Name+"."))
		}
		return []impl.Node{tree(impl.DClass, full, kids...)}
	case impl.DInst:
		inst := tree(impl.DInst, "", m.types(d.Kids[0]))
		inst.Name = m.find("type", d.Name).full
		inst.Kids = append(inst.Kids, m.types(d.Kids[1]))
		m.odds(d.Kids[2:])
		for _, clause := range d.Kids[2:] {
			name := m.find("value", clause.Name).full
			inst.Kids = append(inst.Kids, m.clause(clause, name, nil))
		}
		return []impl.Node{inst}
	case impl.DData:
		return m.data(d, full)
	}
	return nil
}

func (m *slowModule) data(d impl.Node, full string) []impl.Node {
	data := tree(impl.DData, full, d.Kids[0])
	for _, c := range kidsOf(d, impl.DConstr) {
		own := tree(impl.DConstr, m.node.Name+"."+c.Name)
		for _, kid := range c.Kids {
			own.Kids = append(own.Kids, m.types(kid))
		}
		data.Kids = append(data.Kids, own)
	}
	data.Kids = append(data.Kids, tree(impl.DNames, ""))
	list := []impl.Node{data}
	for _, item := range d.Kids[len(d.Kids)-1].Kids {
		class := m.find("type", item.Name)
		method := map[string]string{"Eq": "==", "Ord": "<=", "Show": "show"}[item.Name]
		prefix := strings.TrimSuffix(class.full, item.Name)
		home := m.program[strings.TrimSuffix(prefix, ".")]
		if home == nil || !slices.Contains(home.tops, slowEntry{"value", method, prefix + method, item.Name}) {
			m.fail(13, item.Name)
		}
		list = append(list, deriveSlowly(data, class.full, prefix+method))
	}
	return list
}

func (m *slowModule) signature(d impl.Node, prefix string) impl.Node {
	names := tree(impl.DNames, "")
	for _, item := range d.Kids[0].Kids {
		names.Kids = append(names.Kids, tree(impl.DItem, prefix+item.Name))
	}
	return tree(impl.DSig, "", names, m.types(d.Kids[1]), m.types(d.Kids[2]))
}

// types walks through types and contexts of them.
func (m *slowModule) types(n impl.Node) impl.Node {
	own := tree(n.Kind, n.Name)
	if n.Kind == impl.TCon {
		own.Name = m.find("type", n.Name).full
	}
	for _, kid := range n.Kids {
		own.Kids = append(own.Kids, m.types(kid))
	}
	return own
}

// bound has the names that patterns bind, with those around ahead of them.
func (m *slowModule) bound(patterns []impl.Node, around []string) []string {
	var names []string
	for _, p := range patterns {
		eachNode(p, func(n impl.Node) {
			if n.Kind == impl.PVar || n.Kind == impl.PAs {
				if slices.Contains(names, n.Name) {
					m.fail(11, n.Name)
				}
				names = append(names, n.Name)
			}
		})
	}
	return slices.Concat(around, names)
}

func (m *slowModule) pattern(n impl.Node) impl.Node {
	own := tree(n.Kind, n.Name)
	if n.Kind == impl.PCon {
		own.Name = m.find("constructor", n.Name).full
	}
	for _, kid := range n.Kids {
		own.Kids = append(own.Kids, m.pattern(kid))
	}
	return own
}

func (m *slowModule) clause(d impl.Node, name string, around []string) impl.Node {
	last := len(d.Kids) - 1
	inner := m.bound(d.Kids[:last], around)
	own := tree(impl.DClause, name)
	for _, p := range d.Kids[:last] {
		own.Kids = append(own.Kids, m.pattern(p))
	}
	own.Kids = append(own.Kids, m.rightSide(d.Kids[last], inner))
	return own
}

// block has the declarations of a block, and what is around for what it stands at.
func (m *slowModule) block(n impl.Node, around []string) ([]impl.Node, []string) {
	decls := kidsOf(n, impl.DSig, impl.DClause, impl.DFix)
	m.odds(decls)
	inner := slices.Clone(around)
	for _, d := range kidsOf(n, impl.DClause) {
		inner = append(inner, d.Name)
	}
	var list []impl.Node
	for _, d := range decls {
		switch d.Kind {
		case impl.DSig:
			list = append(list, m.signature(d, ""))
		case impl.DClause:
			list = append(list, m.clause(d, d.Name, inner))
		}
	}
	return list, inner
}

func (m *slowModule) rightSide(n impl.Node, around []string) impl.Node {
	decls, inner := m.block(n, around)
	own := tree(impl.NRhs, "")
	for _, kid := range n.Kids {
		if kid.Kind < impl.DSig {
			own.Kids = append(own.Kids, m.expression(kid, inner))
		}
	}
	own.Kids = append(own.Kids, decls...)
	return own
}

func (m *slowModule) name(own string, around []string) impl.Node {
	if own[0] == ':' || own[0] >= 'A' && own[0] <= 'Z' {
		return tree(impl.NCon, m.find("constructor", own).full)
	}
	if slices.Contains(around, own) {
		return tree(impl.NVar, own)
	}
	return tree(impl.NVar, m.find("value", own).full)
}

func (m *slowModule) expression(n impl.Node, around []string) impl.Node {
	last := len(n.Kids) - 1
	own := tree(n.Kind, n.Name)
	switch n.Kind {
	case impl.NVar, impl.NCon:
		return m.name(n.Name, around)
	case impl.NLeft:
		x := m.name(n.Name, around)
		return tree(impl.NApp, "", x, m.expression(n.Kids[0], around))
	case impl.NRight:
		x := m.name(n.Name, around)
		v := "s'"
		for slices.Contains(textsIn(n, nil), v) {
			v += "'"
		}
		return tree(impl.NLam, "", tree(impl.PVar, v), tree(impl.NApp, "", x, tree(impl.NVar, v), m.expression(n.Kids[0], around)))
	case impl.NLam, impl.NAlt:
		inner := m.bound(n.Kids[:last], around)
		for _, p := range n.Kids[:last] {
			own.Kids = append(own.Kids, m.pattern(p))
		}
		own.Kids = append(own.Kids, m.expression(n.Kids[last], inner))
		return own
	case impl.NRhs:
		return m.rightSide(n, around)
	case impl.NLet:
		decls, inner := m.block(n, around)
		own.Kids = append(decls, m.expression(n.Kids[last], inner))
		return own
	case impl.NComp:
		for _, q := range n.Kids[1:] {
			if q.Kind == impl.NTest {
				own.Kids = append(own.Kids, m.expression(q, around))
				continue
			}
			inner := m.bound(q.Kids[:1], around)
			own.Kids = append(own.Kids, tree(impl.NGen, "", m.pattern(q.Kids[0]), m.expression(q.Kids[1], around)))
			around = inner
		}
		own.Kids = append([]impl.Node{m.expression(n.Kids[0], around)}, own.Kids...)
		return own
	}
	for _, kid := range n.Kids {
		own.Kids = append(own.Kids, m.expression(kid, around))
	}
	return own
}

func sameProgram(a, b impl.ProgramResult) bool {
	return a.Code == b.Code && a.Module == b.Module && a.Name == b.Name && slices.EqualFunc(a.Decls, b.Decls, sameSlowly)
}

// declsText writes declarations as Print would, were their names such as it knows.
func declsText(decls []impl.Node) string { return joined(decls, ";", declText) }

// programText is what a program is resolved to, or ? with the code, the module and the name.
func programText(r impl.ProgramResult) string {
	if r.Code != 0 {
		return glue("?"+strconv.FormatInt(r.Code, 10), r.Module, r.Name)
	}
	return declsText(r.Decls)
}

// checkProgram holds what is answered against the second reading.
func checkProgram(t *testing.T, list []impl.Node) impl.ProgramResult {
	t.Helper()
	got, want := impl.Resolve(list), resolveSlowly(list)
	if !sameProgram(got, want) {
		var texts []string
		for _, n := range list {
			texts = append(texts, kinded(n))
		}
		t.Fatalf("%s\nis\n%s\nnot\n%s", strings.Join(texts, "\n"), programText(got), programText(want))
	}
	return got
}

// modulesOf reads modules, each from the word module on up to the next one.
func modulesOf(t *testing.T, text string) []impl.Node {
	t.Helper()
	var list []impl.Node
	for _, part := range strings.Split(text, "module ")[1:] {
		list = append(list, parsed(t, "module "+part))
	}
	return list
}

// checkResolved compares what modules are resolved to with a text.
func checkResolved(t *testing.T, rows [][2]string) {
	t.Helper()
	for _, row := range rows {
		if got := programText(checkProgram(t, modulesOf(t, row[0]))); got != row[1] {
			t.Errorf("%s\nis\n%s\nnot\n%s", row[0], got, row[1])
		}
	}
}
