package tests

import (
	"fmt"
	"slices"
	"strings"
	"testing"

	"loop.example/g00017/impl"
)

// predsText writes preds with the ids that they have.
func predsText(preds []impl.Pred) string {
	var parts []string
	for _, p := range preds {
		parts = append(parts, fmt.Sprint(p.Class, "@", p.Id))
	}
	return strings.Join(parts, " ")
}

func conInfoText(c impl.ConInfo) string {
	var fields []string
	for _, field := range c.Fields {
		fields = append(fields, typeText(field))
	}
	return glue("con", c.Name, "of", c.Data, fmt.Sprintf("%d/%d", c.Tag, c.Vars), strings.Join(fields, " "))
}

func dataInfoText(d impl.DataInfo) string {
	return glue("data", fmt.Sprintf("%s/%d", d.Name, d.Vars), strings.Join(d.Cons, " "))
}

func methodInfoText(m impl.MethodInfo) string {
	return glue("method", m.Name, "of", m.Class, schemeText(m.Scheme))
}

func classInfoText(c impl.ClassInfo) string {
	return glue("class", c.Name, "<", strings.Join(c.Supers, " "), ">", strings.Join(c.Methods, " "))
}

func instInfoText(i impl.InstInfo) string {
	return glue("inst", i.Class, fmt.Sprintf("%s/%d", i.Con, i.Vars), predsText(i.Preds))
}

func textsOf[T any](list []T, text func(T) string) []string {
	var texts []string
	for _, one := range list {
		texts = append(texts, text(one))
	}
	return texts
}

// entriesOf writes all entries of tables, in order.
func entriesOf(t impl.Tables) []string {
	return slices.Concat(textsOf(t.Datas, dataInfoText), textsOf(t.Cons, conInfoText), textsOf(t.Classes, classInfoText), textsOf(t.Methods, methodInfoText), textsOf(t.Insts, instInfoText))
}

func tablesText(t impl.Tables) string { return strings.Join(entriesOf(t), " ; ") }

// resultText is what modules have behind what is built in, or ? with the code and the name.
func resultText(r impl.TablesResult) string {
	if r.Code != 0 {
		return glue(fmt.Sprint("?", r.Code), r.Name, tablesText(r.Tables))
	}
	own := r.Tables
	datas, cons := len(slowBuiltins().Datas), len(slowBuiltins().Cons)
	if len(own.Datas) < datas || len(own.Cons) < cons || tablesText(impl.Tables{Datas: own.Datas[:datas], Cons: own.Cons[:cons]}) != tablesText(slowBuiltins()) {
		return "built in: " + tablesText(own)
	}
	own.Datas, own.Cons = own.Datas[datas:], own.Cons[cons:]
	return glue(r.Name, tablesText(own))
}

// slowBuiltins has what is built in, written out.
func slowBuiltins() impl.Tables {
	a, b, c, d, e, f, g := typePlace(0), typePlace(1), typePlace(2), typePlace(3), typePlace(4), typePlace(5), typePlace(6)
	return impl.Tables{
		Datas: []impl.DataInfo{
			{Name: "Bool", Cons: []string{"False", "True"}}, {Name: "[]", Vars: 1, Cons: []string{"[]", ":"}}, {Name: "Int"}, {Name: "Char"}, {Name: "->", Vars: 2},
			{Name: "()", Cons: []string{"()"}}, {Name: "(,)", Vars: 2, Cons: []string{"(,)"}}, {Name: "(,,)", Vars: 3, Cons: []string{"(,,)"}}, {Name: "(,,,)", Vars: 4, Cons: []string{"(,,,)"}},
			{Name: "(,,,,)", Vars: 5, Cons: []string{"(,,,,)"}}, {Name: "(,,,,,)", Vars: 6, Cons: []string{"(,,,,,)"}}, {Name: "(,,,,,,)", Vars: 7, Cons: []string{"(,,,,,,)"}},
		},
		Cons: []impl.ConInfo{
			{Name: "False", Data: "Bool"}, {Name: "True", Data: "Bool", Tag: 1}, {Name: "[]", Data: "[]", Vars: 1}, {Name: ":", Data: "[]", Tag: 1, Vars: 1, Fields: []impl.Type{a, typeCon("[]", a)}},
			{Name: "()", Data: "()"}, {Name: "(,)", Data: "(,)", Vars: 2, Fields: []impl.Type{a, b}}, {Name: "(,,)", Data: "(,,)", Vars: 3, Fields: []impl.Type{a, b, c}}, {Name: "(,,,)", Data: "(,,,)", Vars: 4, Fields: []impl.Type{a, b, c, d}},
			{Name: "(,,,,)", Data: "(,,,,)", Vars: 5, Fields: []impl.Type{a, b, c, d, e}}, {Name: "(,,,,,)", Data: "(,,,,,)", Vars: 6, Fields: []impl.Type{a, b, c, d, e, f}}, {Name: "(,,,,,,)", Data: "(,,,,,,)", Vars: 7, Fields: []impl.Type{a, b, c, d, e, f, g}},
		},
	}
}

// A slowTeller is a second reading of TableOf: all is looked for in lists, and each rule tells all that it finds.
type slowTeller struct {
	decls, datas, classes []impl.Node
	builtins              []impl.DataInfo
}

func (s *slowTeller) isClass(name string) bool {
	return slices.ContainsFunc(s.classes, func(d impl.Node) bool { return d.Name == name })
}

// variables answers how many variables a data has, or -1.
func (s *slowTeller) variables(name string) int {
	for _, data := range s.builtins {
		if data.Name == name {
			return int(data.Vars)
		}
	}
	for _, d := range s.datas {
		if d.Name == name {
			return len(d.Kids[0].Kids)
		}
	}
	return -1
}

// A slowScheme is a scheme, or why it is none.
type slowScheme struct {
	impl.Scheme
	none  int
	name  string
	names []string // of its places
}

// scheme reads a type tree; what is wrong with it is found on the way through all of it.
func (s *slowTeller) scheme(context, root impl.Node, ahead []string) slowScheme {
	r := slowScheme{names: slices.Clone(ahead)}
	var found []string
	var read func(n impl.Node) impl.Type
	read = func(n impl.Node) impl.Type {
		if n.Kind == impl.TVar {
			if !slices.Contains(r.names, n.Name) {
				r.names = append(r.names, n.Name)
			}
			return typePlace(int64(slices.Index(r.names, n.Name)))
		}
		t, args := typeCon(n.Name), n.Kids
		switch n.Kind {
		case impl.TFun:
			t.Name = "->"
		case impl.TList:
			t.Name = "[]"
		case impl.TTuple:
			t.Name = map[bool]string{true: "()", false: "(" + strings.Repeat(",", max(1, len(args))-1) + ")"}[len(args) == 0]
		case impl.TApp:
			t.Name, args = args[0].Name, args[1:]
		}
		isApplied := n.Kind != impl.TApp || n.Kids[0].Kind == impl.TCon
		if !isApplied || s.variables(t.Name) != len(args) {
			found = append(found, t.Name)
		}
		for _, arg := range args {
			t.Args = append(t.Args, read(arg))
		}
		return t
	}
	r.Type = read(root)
	if len(found) > 0 {
		r.none, r.name = 1, found[0]
	}
	for _, b := range context.Kids {
		if r.none == 0 && !s.isClass(b.Kids[0].Name) {
			r.none, r.name = 2, b.Kids[0].Name
		}
	}
	for _, b := range context.Kids {
		at := slices.Index(r.names, b.Kids[1].Name)
		if r.none == 0 && at < 0 {
			r.none, r.name = 3, b.Kids[1].Name
		}
		r.Preds = append(r.Preds, impl.Pred{Class: b.Kids[0].Name, Id: int64(at)})
	}
	r.Count = int64(len(r.names))
	return r
}

func itemNames(n impl.Node) []string {
	return textsOf(n.Kids, func(item impl.Node) string { return item.Name })
}

// dataFaults has what code 1 tells of a data.
func (s *slowTeller) dataFaults(d impl.Node) []string {
	var found []string
	ahead := itemNames(d.Kids[0])
	for i, name := range ahead {
		if slices.Contains(ahead[:i], name) {
			return []string{d.Name}
		}
	}
	for _, mode := range []string{"constructors", "variables"} {
		for _, c := range kidsOf(d, impl.DConstr) {
			for _, field := range c.Kids {
				r := s.scheme(impl.Node{}, field, ahead)
				if mode == "constructors" && r.none > 0 {
					found = append(found, r.name)
				} else if mode == "variables" {
					found = append(found, r.names[len(ahead):]...)
				}
			}
		}
	}
	return found
}

func contextOf(d impl.Node) []impl.Node { return kidsOf(d, impl.DContext)[0].Kids }

func (s *slowTeller) superclassFaults(d impl.Node) []string {
	var found []string
	for _, b := range contextOf(d) {
		if !s.isClass(b.Kids[0].Name) || b.Kids[1].Name != d.Kids[1].Name {
			found = append(found, d.Name)
		}
	}
	return found
}

// above has all superclasses of a class, through others too.
func (s *slowTeller) above(class string) []string {
	var list []string
	for from := []string{class}; len(from) > 0; {
		var next []string
		for _, d := range s.classes {
			if !slices.Contains(from, d.Name) {
				continue
			}
			for _, b := range contextOf(d) {
				if name := b.Kids[0].Name; !slices.Contains(list, name) {
					list, next = append(list, name), append(next, name)
				}
			}
		}
		from = next
	}
	return list
}

func (s *slowTeller) roundFaults(d impl.Node) []string {
	if slices.Contains(s.above(d.Name), d.Name) {
		return []string{d.Name}
	}
	return nil
}

func (s *slowTeller) methodFaults(d impl.Node) []string {
	var found []string
	variable := d.Kids[1].Name
	for _, sig := range kidsOf(d, impl.DSig) {
		isAsked := func(b impl.Node) bool { return b.Kids[1].Name == variable }
		wrong := s.scheme(sig.Kids[1], sig.Kids[2], []string{variable}).none > 0 || !slices.Contains(s.scheme(impl.Node{}, sig.Kids[2], nil).names, variable) || slices.ContainsFunc(contextOf(sig), isAsked)
		for _, name := range itemNames(sig.Kids[0]) {
			if wrong {
				found = append(found, name)
			}
		}
	}
	return found
}

// inst reads an instance as the scheme of its type.
func (s *slowTeller) inst(d impl.Node) (impl.InstInfo, bool) {
	bare := s.scheme(impl.Node{}, d.Kids[1], nil)
	whole := s.scheme(d.Kids[0], d.Kids[1], nil)
	isOther := func(arg impl.Type) bool { return arg.Kind != impl.TyGen }
	good := s.isClass(d.Name) && d.Kids[1].Kind != impl.TVar && whole.none == 0 && !slices.ContainsFunc(bare.Type.Args, isOther) && len(bare.names) == len(bare.Type.Args)
	return impl.InstInfo{Class: d.Name, Con: bare.Type.Name, Vars: bare.Count, Preds: whole.Preds}, good
}

func (s *slowTeller) instanceFaults(d impl.Node) []string {
	if _, good := s.inst(d); !good {
		return []string{d.Name}
	}
	return nil
}

// insts has the instances ahead of so many declarations.
func (s *slowTeller) insts(d *impl.Node) []impl.InstInfo {
	var list []impl.InstInfo
	for i := range s.decls {
		if &s.decls[i] == d {
			break
		}
		if s.decls[i].Kind == impl.DInst {
			inst, _ := s.inst(s.decls[i])
			list = append(list, inst)
		}
	}
	return list
}

func (s *slowTeller) clauseFaults(d impl.Node) []string {
	var methods, defined, found []string
	for _, class := range s.classes {
		if class.Name == d.Name {
			for _, sig := range kidsOf(class, impl.DSig) {
				methods = append(methods, itemNames(sig.Kids[0])...)
			}
		}
	}
	for _, clause := range kidsOf(d, impl.DClause) {
		defined = append(defined, clause.Name)
		if !slices.Contains(methods, clause.Name) {
			found = append(found, clause.Name)
		}
	}
	for _, method := range methods {
		if !slices.Contains(defined, method) {
			found = append(found, method)
		}
	}
	return found
}

func (s *slowTeller) unmetFaults(d impl.Node) []string {
	var found []string
	own, _ := s.inst(d)
	isMet := func(p impl.Pred) bool {
		return slices.ContainsFunc(own.Preds, func(o impl.Pred) bool {
			return o.Id == p.Id && (o.Class == p.Class || slices.Contains(s.above(o.Class), p.Class))
		})
	}
	for _, class := range s.classes {
		if class.Name != d.Name {
			continue
		}
		for _, b := range contextOf(class) {
			met := slices.ContainsFunc(s.insts(nil), func(i impl.InstInfo) bool {
				return i.Class == b.Kids[0].Name && i.Con == own.Con && !slices.ContainsFunc(i.Preds, func(p impl.Pred) bool { return !isMet(p) })
			})
			if !met {
				found = append(found, b.Kids[0].Name)
			}
		}
	}
	return found
}

// faults has what a code tells of one declaration.
func (s *slowTeller) faults(code int, d *impl.Node) []string {
	switch {
	case d.Kind == impl.DData && code == 1:
		return s.dataFaults(*d)
	case d.Kind == impl.DClass && code == 2:
		return s.superclassFaults(*d)
	case d.Kind == impl.DClass && code == 3:
		return s.roundFaults(*d)
	case d.Kind == impl.DClass && code == 4:
		return s.methodFaults(*d)
	case d.Kind == impl.DInst && code == 5:
		return s.instanceFaults(*d)
	case d.Kind == impl.DInst && code == 6:
		inst, _ := s.inst(*d)
		if slices.ContainsFunc(s.insts(d), func(i impl.InstInfo) bool { return i.Class == inst.Class && i.Con == inst.Con }) {
			return []string{inst.Con}
		}
	case d.Kind == impl.DInst && code == 7:
		return s.clauseFaults(*d)
	case d.Kind == impl.DInst && code == 8:
		return s.unmetFaults(*d)
	}
	return nil
}

// tell has the entries of one declaration.
func (s *slowTeller) tell(t *impl.Tables, d impl.Node) {
	switch d.Kind {
	case impl.DData:
		ahead := itemNames(d.Kids[0])
		data := impl.DataInfo{Name: d.Name, Vars: int64(len(ahead))}
		for tag, c := range kidsOf(d, impl.DConstr) {
			con := impl.ConInfo{Name: c.Name, Data: d.Name, Tag: int64(tag), Vars: data.Vars}
			for _, field := range c.Kids {
				con.Fields = append(con.Fields, s.scheme(impl.Node{}, field, ahead).Type)
			}
			data.Cons = append(data.Cons, c.Name)
			t.Cons = append(t.Cons, con)
		}
		t.Datas = append(t.Datas, data)
	case impl.DClass:
		class := impl.ClassInfo{Name: d.Name}
		for _, b := range contextOf(d) {
			class.Supers = append(class.Supers, b.Kids[0].Name)
		}
		for _, sig := range kidsOf(d, impl.DSig) {
			for _, name := range itemNames(sig.Kids[0]) {
				r := s.scheme(sig.Kids[1], sig.Kids[2], []string{d.Kids[1].Name})
				r.Preds = append([]impl.Pred{{Class: d.Name}}, r.Preds...)
				class.Methods = append(class.Methods, name)
				t.Methods = append(t.Methods, impl.MethodInfo{Name: name, Class: d.Name, Scheme: r.Scheme})
			}
		}
		t.Classes = append(t.Classes, class)
	case impl.DInst:
		inst, _ := s.inst(d)
		t.Insts = append(t.Insts, inst)
	}
}

func tablesSlowly(list []impl.Node) impl.TablesResult {
	program := resolveSlowly(list)
	if program.Code != 0 {
		return impl.TablesResult{Code: program.Code + 20, Name: program.Name}
	}
	whole := impl.Node{Kids: program.Decls}
	s := &slowTeller{decls: program.Decls, datas: kidsOf(whole, impl.DData), classes: kidsOf(whole, impl.DClass), builtins: slowBuiltins().Datas}
	for code := 1; code <= 8; code++ {
		for i := range s.decls {
			if found := s.faults(code, &s.decls[i]); len(found) > 0 {
				return impl.TablesResult{Code: int64(code), Name: found[0]}
			}
		}
	}
	tables := slowBuiltins()
	for _, d := range s.decls {
		s.tell(&tables, d)
	}
	return impl.TablesResult{Tables: tables}
}

// checkTables holds what is answered against the second reading.
func checkTables(t *testing.T, list []impl.Node) impl.TablesResult {
	t.Helper()
	got, want := impl.TableOf(list), tablesSlowly(list)
	if resultText(got) != resultText(want) {
		t.Fatalf("%s\nis\n%s\nnot\n%s", strings.Join(textsOf(list, kinded), "\n"), resultText(got), resultText(want))
	}
	return got
}

// checkTold compares the tables of modules with a text. What is no module is the inside of one, M.
func checkTold(t *testing.T, rows [][2]string) {
	t.Helper()
	for _, row := range rows {
		text := row[0]
		if !strings.HasPrefix(text, "module ") {
			text = "module M where { " + text + " }"
		}
		if got := resultText(checkTables(t, modulesOf(t, text))); got != row[1] {
			t.Errorf("%s\nis\n%s\nnot\n%s", row[0], got, row[1])
		}
	}
}
