package tests

import (
	"regexp"
	"slices"
	"strconv"
	"strings"
	"testing"

	"loop.example/g00017/impl"
)

// The second reading of chapter 11: types are those of chapter 8, made one by a map; what stands around is looked for in all that is around; a dictionary has a number until it is known, and is put in at the end.

// A slowBinding is a name with its scheme; the ids that are its places come first.
type slowBinding struct {
	name   string
	places []int64
	preds  []impl.Pred
	body   impl.Type
	group  int // the one at hand of which it is a member, or 0
}

type slowWant struct {
	class string
	at    impl.Type
	hole  int
}

// A slowPromise is a pred of a signature: the variable, a constructor of a name that no source has, is of the class.
type slowPromise struct {
	class, variable, argument string
}

type slowUntyped struct{}

type slowTyper struct {
	teller   *slowTeller
	tables   impl.Tables
	binds    map[int64]impl.Type
	last     int64
	promises []slowPromise
	wants    []slowWant
	holes    []impl.Node
	groups   [][]string // the arguments of the members of each
	count    int
	noted    []impl.Type // of all expressions, patterns and things of the unit at hand
}

const (
	slowHole   = -1
	slowMember = -2
)

func slowRefuse(when bool) {
	if when {
		panic(slowUntyped{})
	}
}

func (s *slowTyper) fresh() impl.Type {
	s.last++
	return typeVar(s.last)
}

// seen has a type as it is known.
func (s *slowTyper) seen(t impl.Type) impl.Type {
	if t.Kind == impl.TyVar {
		if other, known := s.binds[t.Id]; known {
			return s.seen(other)
		}
		return t
	}
	own := typeCon(t.Name)
	for _, arg := range t.Args {
		own.Args = append(own.Args, s.seen(arg))
	}
	return own
}

func (s *slowTyper) same(a, b impl.Type) {
	a, b = s.seen(a), s.seen(b)
	switch {
	case a.Kind == impl.TyVar && b.Kind == impl.TyVar && a.Id == b.Id:
	case a.Kind == impl.TyVar:
		slowRefuse(slices.Contains(freeIdsSlowly(b), a.Id))
		s.binds[a.Id] = b
	case b.Kind == impl.TyVar:
		s.same(b, a)
	default:
		slowRefuse(a.Name != b.Name || len(a.Args) != len(b.Args))
		for i := range a.Args {
			s.same(a.Args[i], b.Args[i])
		}
	}
}

// bounded refuses what is too large or too deep already; what is left is looked at again behind the unit.
func (s *slowTyper) bounded(t impl.Type) impl.Type {
	s.noted = append(s.noted, t)
	s.refuseLarge(t)
	return t
}

func (s *slowTyper) refuseLarge(t impl.Type) {
	count, levels := typeMeasures(s.seen(t))
	slowRefuse(count > impl.MaxNodes || levels > impl.MaxDeep)
}

// placed puts types for places or for ids.
func placed(t impl.Type, kind int64, types map[int64]impl.Type) impl.Type {
	if t.Kind != impl.TyCon {
		if other, known := types[t.Id]; known && t.Kind == kind {
			return other
		}
		return t
	}
	own := typeCon(t.Name)
	for _, arg := range t.Args {
		own.Args = append(own.Args, placed(arg, kind, types))
	}
	return own
}

func bindingOf(s *slowTyper, name string, scheme impl.Scheme) slowBinding {
	b := slowBinding{name: name}
	types := map[int64]impl.Type{}
	for i := range scheme.Count {
		v := s.fresh()
		types[i] = v
		b.places = append(b.places, v.Id)
	}
	b.body = placed(scheme.Type, impl.TyGen, types)
	for _, p := range scheme.Preds {
		b.preds = append(b.preds, impl.Pred{Class: p.Class, Id: types[p.Id].Id})
	}
	return b
}

// around has the ids and the fixed variables that stand in what is around.
func (s *slowTyper) around(env []slowBinding) (ids []int64, names []string) {
	for _, b := range env {
		t := s.seen(b.body)
		for _, id := range freeIdsSlowly(t) {
			if !slices.Contains(b.places, id) {
				ids = append(ids, id)
			}
		}
		names = append(names, conNames(t)...)
	}
	return ids, names
}

func conNames(t impl.Type) []string {
	names := []string{t.Name}
	for _, arg := range t.Args {
		names = append(names, conNames(arg)...)
	}
	return names
}

func (s *slowTyper) want(class string, at impl.Type) (slowWant, impl.Node) {
	s.count++
	slowRefuse(s.count > impl.MaxNodes)
	s.holes = append(s.holes, impl.Node{})
	hole := len(s.holes) - 1
	return slowWant{class, at, hole}, tree(slowHole, strconv.Itoa(hole))
}

func applied(function impl.Node, arguments []impl.Node) impl.Node {
	if len(arguments) == 0 {
		return function
	}
	return tree(impl.NApp, "", append([]impl.Node{function}, arguments...)...)
}

// stepped leads from a dictionary of a class to that of one of its superclasses.
func (s *slowTyper) stepped(dict impl.Node, from, to string) impl.Node {
	for _, next := range impl.SuperPath(s.tables, from, to) {
		dict = applied(tree(impl.NVar, "super:"+from+":"+next), []impl.Node{dict})
		from = next
	}
	return dict
}

func (s *slowTyper) leads(from, to string) bool {
	return from == to || len(impl.SuperPath(s.tables, from, to)) > 0
}

// met takes away what datas and signatures meet, and leaves what is needed at variables.
func (s *slowTyper) met(wants []slowWant) []slowWant {
	var left []slowWant
	for _, w := range wants {
		at := s.seen(w.at)
		if at.Kind == impl.TyVar {
			left = append(left, w)
			continue
		}
		if strings.HasPrefix(at.Name, "?") {
			i := slices.IndexFunc(s.promises, func(p slowPromise) bool { return p.variable == at.Name && s.leads(p.class, w.class) })
			slowRefuse(i < 0)
			s.holes[w.hole] = s.stepped(tree(impl.NVar, s.promises[i].argument), s.promises[i].class, w.class)
			continue
		}
		inst := impl.FindInst(s.tables, w.class, at.Name)
		slowRefuse(inst.Class == "")
		var dicts []impl.Node
		for _, p := range inst.Preds {
			next, hole := s.want(p.Class, at.Args[p.Id])
			left = append(left, s.met([]slowWant{next})...)
			dicts = append(dicts, hole)
		}
		s.holes[w.hole] = applied(tree(impl.NVar, "inst:"+w.class+":"+at.Name), dicts)
	}
	return left
}

// filled puts dictionaries where they belong.
func (s *slowTyper) filled(n impl.Node) impl.Node {
	switch n.Kind {
	case slowHole:
		i, _ := strconv.Atoi(n.Name)
		return s.filled(s.holes[i])
	case slowMember:
		i, name, _ := strings.Cut(n.Name, " ")
		group, _ := strconv.Atoi(i)
		var dicts []impl.Node
		for _, argument := range s.groups[group] {
			dicts = append(dicts, tree(impl.NVar, argument))
		}
		return applied(tree(impl.NVar, name), dicts)
	}
	own := tree(n.Kind, n.Name)
	for _, kid := range n.Kids {
		own.Kids = append(own.Kids, s.filled(kid))
	}
	return own
}

func argumentsAt(level, count int) []string {
	var names []string
	for k := 1; k <= count; k++ {
		names = append(names, "#"+strconv.Itoa(level)+"."+strconv.Itoa(k))
	}
	return names
}

func withArguments(clauses []impl.Node, names []string) []impl.Node {
	var made []impl.Node
	for _, c := range clauses {
		own := tree(c.Kind, c.Name)
		for _, name := range names {
			own.Kids = append(own.Kids, tree(impl.PVar, name))
		}
		own.Kids = append(own.Kids, c.Kids...)
		made = append(made, own)
	}
	return made
}

// freeIn has the names that stand as variables where nothing within binds or defines them.
func freeIn(n impl.Node) []string {
	var below, own []string
	switch n.Kind {
	case impl.NVar:
		return []string{n.Name}
	case impl.NComp:
		below = freeIn(n.Kids[0])
		for _, q := range slices.Backward(n.Kids[1:]) {
			last := q.Kids[len(q.Kids)-1]
			if q.Kind == impl.NGen {
				below = lessNames(below, boundIn(q.Kids[0]))
			}
			below = append(below, freeIn(last)...)
		}
		return below
	case impl.NLam, impl.DClause, impl.NAlt:
		for _, p := range n.Kids[:len(n.Kids)-1] {
			own = append(own, boundIn(p)...)
		}
	case impl.NLet, impl.NRhs:
		for _, d := range kidsOf(n, impl.DClause) {
			own = append(own, d.Name)
		}
	}
	for _, kid := range n.Kids {
		below = append(below, freeIn(kid)...)
	}
	return lessNames(below, own)
}

func lessNames(names, gone []string) []string {
	return slices.DeleteFunc(names, func(name string) bool { return slices.Contains(gone, name) })
}

func boundIn(p impl.Node) []string {
	var names []string
	eachNode(p, func(n impl.Node) {
		if n.Kind == impl.PVar || n.Kind == impl.PAs {
			names = append(names, n.Name)
		}
	})
	return names
}

// A slowThing has all clauses of a name.
type slowThing struct {
	name    string
	clauses []impl.Node
	sig     *impl.Node
}

func slowThings(decls []impl.Node) []slowThing {
	var things []slowThing
	for _, d := range kidsOf(tree(0, "", decls...), impl.DClause) {
		i := slices.IndexFunc(things, func(t slowThing) bool { return t.name == d.Name })
		if i < 0 {
			things = append(things, slowThing{name: d.Name})
			i = len(things) - 1
		}
		things[i].clauses = append(things[i].clauses, d)
	}
	for _, d := range kidsOf(tree(0, "", decls...), impl.DSig) {
		for i := range things {
			if slices.Contains(itemNames(d.Kids[0]), things[i].name) {
				things[i].sig = &d
			}
		}
	}
	return things
}

// ordered has things in the order in which they are typed, in groups; each with a signature is alone.
func ordered(things []slowThing) [][]slowThing {
	var without []slowThing
	var groups [][]slowThing
	for _, one := range things {
		if one.sig == nil {
			without = append(without, one)
		}
	}
	edges := make([][]int64, len(without))
	for i, one := range without {
		for _, c := range one.clauses {
			for _, name := range freeIn(c) {
				if at := slices.IndexFunc(without, func(o slowThing) bool { return o.name == name }); at >= 0 {
					edges[i] = append(edges[i], int64(at))
				}
			}
		}
	}
	for _, numbers := range groupsSlowly(edges) {
		var group []slowThing
		for _, i := range numbers {
			group = append(group, without[i])
		}
		groups = append(groups, group)
	}
	for _, one := range things {
		if one.sig != nil {
			groups = append(groups, []slowThing{one})
		}
	}
	return groups
}

func (s *slowTyper) signed(one slowThing) slowBinding {
	return bindingOf(s, one.name, s.teller.scheme(one.sig.Kids[1], one.sig.Kids[2], nil).Scheme)
}

// block types things at a level, and tells what is around behind it, and the clauses of each.
func (s *slowTyper) block(env []slowBinding, decls []impl.Node, level int) ([]slowBinding, []impl.Node) {
	things := slowThings(decls)
	inner := slices.Clip(env)
	for _, one := range things {
		if one.sig != nil {
			inner = append(inner, s.signed(one))
		}
	}
	made := map[string][]impl.Node{}
	for _, group := range ordered(things) {
		inner = s.unit(inner, group, level, made)
	}
	var clauses []impl.Node
	for _, one := range things {
		clauses = append(clauses, made[one.name]...)
	}
	return inner, clauses
}

// unit types a group, or one thing with a signature, whose binding is there already.
func (s *slowTyper) unit(env []slowBinding, group []slowThing, level int, made map[string][]impl.Node) []slowBinding {
	if group[0].sig != nil {
		b := s.lookup(env, group[0].name)
		made[group[0].name] = s.signedThing(env, b, nil, group[0].clauses, level)
		return env
	}
	return append(slices.Clip(env), s.group(env, group, level, made)...)
}

func (s *slowTyper) lookup(env []slowBinding, name string) slowBinding {
	for _, b := range slices.Backward(env) {
		if b.name == name {
			return b
		}
	}
	panic("no " + name)
}

// signedThing types clauses by a binding, with types for some of its places.
func (s *slowTyper) signedThing(env []slowBinding, b slowBinding, types map[int64]impl.Type, clauses []impl.Node, level int) []impl.Node {
	own := map[int64]impl.Type{}
	var names []string
	for _, id := range b.places {
		if t, given := types[id]; given {
			own[id] = t
			continue
		}
		s.last++
		names = append(names, "?"+strconv.FormatInt(s.last, 10))
		own[id] = typeCon(names[len(names)-1])
	}
	arguments := argumentsAt(level, len(b.preds))
	for k, p := range b.preds {
		s.promises = append(s.promises, slowPromise{p.Class, own[p.Id].Name, arguments[k]})
	}
	outside := s.wants
	s.wants = nil
	made := s.clauses(env, s.bounded(placed(b.body, impl.TyVar, own)), clauses, level)
	left := s.met(s.wants)
	ids, cons := s.around(env)
	for _, name := range names {
		slowRefuse(slices.Contains(cons, name))
	}
	for _, w := range left {
		slowRefuse(!slices.Contains(ids, s.seen(w.at).Id))
	}
	s.wants = append(outside, left...)
	return withArguments(made, arguments)
}

func (s *slowTyper) group(env []slowBinding, group []slowThing, level int, made map[string][]impl.Node) []slowBinding {
	s.groups = append(s.groups, nil)
	number := len(s.groups) - 1
	inner := slices.Clip(env)
	var types []impl.Type
	isConstant := false
	for _, one := range group {
		t := s.fresh()
		types = append(types, t)
		inner = append(inner, slowBinding{name: one.name, body: t, group: number})
		isConstant = isConstant || len(one.clauses[0].Kids) == 1
	}
	outside := s.wants
	s.wants = nil
	for i, one := range group {
		made[one.name] = s.clauses(inner, types[i], one.clauses, level)
	}
	left := s.met(s.wants)
	ids, _ := s.around(env)
	var own, outward []slowWant
	for _, w := range left {
		if isConstant || slices.Contains(ids, s.seen(w.at).Id) {
			outward = append(outward, w)
		} else {
			own = append(own, w)
		}
	}
	if isConstant {
		for _, w := range left {
			ids = append(ids, s.seen(w.at).Id)
		}
	}
	preds := s.predsFor(own)
	s.groups[number] = argumentsAt(level, len(preds))
	for _, w := range own {
		i := slices.IndexFunc(preds, func(p impl.Pred) bool { return p.Id == s.seen(w.at).Id && s.leads(p.Class, w.class) })
		s.holes[w.hole] = s.stepped(tree(impl.NVar, s.groups[number][i]), preds[i].Class, w.class)
	}
	s.wants = append(outside, outward...)
	return s.closed(group, types, preds, ids, made, s.groups[number])
}

// predsFor has each class and variable once, without superclasses of others at the same variable.
func (s *slowTyper) predsFor(own []slowWant) []impl.Pred {
	var all []impl.Pred
	for _, w := range own {
		if p := (impl.Pred{Class: w.class, Id: s.seen(w.at).Id}); !slices.Contains(all, p) {
			all = append(all, p)
		}
	}
	var preds []impl.Pred
	for _, p := range all {
		if !slices.ContainsFunc(all, func(o impl.Pred) bool { return o.Id == p.Id && len(impl.SuperPath(s.tables, o.Class, p.Class)) > 0 }) {
			preds = append(preds, p)
		}
	}
	return preds
}

// closed has the bindings of a group behind it; the ids stay open.
func (s *slowTyper) closed(group []slowThing, types []impl.Type, preds []impl.Pred, ids []int64, made map[string][]impl.Node, arguments []string) []slowBinding {
	var bindings []slowBinding
	for i, one := range group {
		t := s.seen(s.bounded(types[i]))
		free := freeIdsSlowly(t)
		for _, p := range preds {
			slowRefuse(!slices.Contains(free, p.Id))
		}
		places := slices.DeleteFunc(free, func(id int64) bool { return slices.Contains(ids, id) })
		bindings = append(bindings, slowBinding{name: one.name, places: places, preds: preds, body: t})
		made[one.name] = withArguments(made[one.name], arguments)
	}
	return bindings
}

func (s *slowTyper) clauses(env []slowBinding, want impl.Type, clauses []impl.Node, level int) []impl.Node {
	var made []impl.Node
	for _, c := range clauses {
		last := len(c.Kids) - 1
		inner := slices.Clip(env)
		var types []impl.Type
		for _, p := range c.Kids[:last] {
			types = append(types, s.pattern(p, &inner))
		}
		result := s.fresh()
		s.same(want, arrowsTo(types, result))
		right := s.right(inner, c.Kids[last], result, level)
		made = append(made, tree(c.Kind, c.Name, append(slices.Clone(c.Kids[:last]), right)...))
	}
	return made
}

func arrowsTo(types []impl.Type, result impl.Type) impl.Type {
	for _, t := range slices.Backward(types) {
		result = typeCon("->", t, result)
	}
	return result
}

func listOf(t impl.Type) impl.Type { return typeCon("[]", t) }

func tupleOf(types []impl.Type) impl.Type {
	if len(types) == 0 {
		return typeCon("()")
	}
	return typeCon("("+strings.Repeat(",", len(types)-1)+")", types...)
}

// right types a right side whose things are one level further in than the thing itself.
func (s *slowTyper) right(env []slowBinding, n impl.Node, want impl.Type, level int) impl.Node {
	inner, clauses := s.block(env, kidsOf(n, impl.DSig, impl.DClause), level+1)
	own := tree(impl.NRhs, "")
	for _, kid := range n.Kids {
		switch kid.Kind {
		case impl.DSig, impl.DClause:
		case impl.NGuard:
			test := s.checked(inner, kid.Kids[0], typeCon("Bool"), level)
			own.Kids = append(own.Kids, tree(impl.NGuard, "", test, s.checked(inner, kid.Kids[1], want, level)))
		default:
			own.Kids = append(own.Kids, s.checked(inner, kid, want, level))
		}
	}
	own.Kids = append(own.Kids, clauses...)
	return own
}

func (s *slowTyper) checked(env []slowBinding, n impl.Node, want impl.Type, level int) impl.Node {
	t, made := s.expression(env, n, level)
	s.same(want, t)
	return made
}

func (s *slowTyper) expression(env []slowBinding, n impl.Node, level int) (impl.Type, impl.Node) {
	t, made := s.anyExpression(env, n, level)
	return s.bounded(t), made
}

func (s *slowTyper) use(env []slowBinding, name string) (impl.Type, impl.Node) {
	b := s.lookup(env, name)
	if b.group != 0 {
		return b.body, tree(slowMember, strconv.Itoa(b.group)+" "+name)
	}
	types := map[int64]impl.Type{}
	for _, id := range b.places {
		types[id] = s.fresh()
	}
	var dicts []impl.Node
	for _, p := range b.preds {
		w, hole := s.want(p.Class, types[p.Id])
		s.wants = append(s.wants, w)
		dicts = append(dicts, hole)
	}
	return placed(b.body, impl.TyVar, types), applied(tree(impl.NVar, name), dicts)
}

// con has the types of the fields of a constructor, and that of its data.
func (s *slowTyper) con(name string) (fields []impl.Type, data impl.Type) {
	c := impl.FindCon(s.tables, name)
	slowRefuse(c.Name == "")
	types := map[int64]impl.Type{}
	data = typeCon(c.Data)
	for i := range c.Vars {
		types[i] = s.fresh()
		data.Args = append(data.Args, types[i])
	}
	for _, f := range c.Fields {
		fields = append(fields, placed(f, impl.TyGen, types))
	}
	return fields, data
}

func (s *slowTyper) each(env []slowBinding, kids []impl.Node, level int) ([]impl.Type, []impl.Node) {
	var types []impl.Type
	var made []impl.Node
	for _, kid := range kids {
		t, m := s.expression(env, kid, level)
		types, made = append(types, t), append(made, m)
	}
	return types, made
}

func (s *slowTyper) anyExpression(env []slowBinding, n impl.Node, level int) (impl.Type, impl.Node) {
	last := len(n.Kids) - 1
	switch n.Kind {
	case impl.NVar:
		return s.use(env, n.Name)
	case impl.NCon:
		fields, data := s.con(n.Name)
		return arrowsTo(fields, data), n
	case impl.NNum:
		return typeCon("Int"), n
	case impl.NChar:
		return typeCon("Char"), n
	case impl.NStr:
		return listOf(typeCon("Char")), n
	case impl.NApp:
		types, made := s.each(env, n.Kids, level)
		result := s.fresh()
		s.same(types[0], arrowsTo(types[1:], result))
		return result, tree(impl.NApp, "", made...)
	case impl.NLam:
		inner := slices.Clip(env)
		var types []impl.Type
		for _, p := range n.Kids[:last] {
			types = append(types, s.pattern(p, &inner))
		}
		t, made := s.expression(inner, n.Kids[last], level)
		return arrowsTo(types, t), tree(impl.NLam, "", append(slices.Clone(n.Kids[:last]), made)...)
	case impl.NLet:
		inner, clauses := s.block(env, n.Kids[:last], level+1)
		t, made := s.expression(inner, n.Kids[last], level)
		return t, tree(impl.NLet, "", append(clauses, made)...)
	case impl.NIf:
		types, made := s.each(env, n.Kids, level)
		s.same(types[0], typeCon("Bool"))
		s.same(types[1], types[2])
		return types[1], tree(impl.NIf, "", made...)
	case impl.NCase:
		return s.cases(env, n, level)
	case impl.NTuple:
		types, made := s.each(env, n.Kids, level)
		s.con(tupleOf(types).Name)
		return tupleOf(types), tree(impl.NTuple, "", made...)
	case impl.NList:
		types, made := s.each(env, n.Kids, level)
		element := s.fresh()
		for _, t := range types {
			s.same(element, t)
		}
		return listOf(element), tree(impl.NList, "", made...)
	case impl.NRange:
		first := s.checked(env, n.Kids[0], typeCon("Int"), level)
		return listOf(typeCon("Int")), tree(impl.NRange, "", first, s.checked(env, n.Kids[1], typeCon("Int"), level))
	case impl.NComp:
		return s.comprehension(env, n, level)
	}
	panic("no expression")
}

func (s *slowTyper) cases(env []slowBinding, n impl.Node, level int) (impl.Type, impl.Node) {
	looked, made := s.expression(env, n.Kids[0], level)
	own, result := tree(impl.NCase, "", made), s.fresh()
	for _, alt := range n.Kids[1:] {
		inner := slices.Clip(env)
		s.same(looked, s.pattern(alt.Kids[0], &inner))
		own.Kids = append(own.Kids, tree(impl.NAlt, "", alt.Kids[0], s.right(inner, alt.Kids[1], result, level)))
	}
	return result, own
}

func (s *slowTyper) comprehension(env []slowBinding, n impl.Node, level int) (impl.Type, impl.Node) {
	own := tree(impl.NComp, "", impl.Node{})
	for _, q := range n.Kids[1:] {
		if q.Kind == impl.NTest {
			own.Kids = append(own.Kids, tree(impl.NTest, "", s.checked(env, q.Kids[0], typeCon("Bool"), level)))
			continue
		}
		t, made := s.expression(env, q.Kids[1], level)
		inner := slices.Clip(env)
		s.same(t, listOf(s.pattern(q.Kids[0], &inner)))
		env = inner
		own.Kids = append(own.Kids, tree(impl.NGen, "", q.Kids[0], made))
	}
	t, made := s.expression(env, n.Kids[0], level)
	own.Kids[0] = made
	return listOf(t), own
}

func (s *slowTyper) pattern(p impl.Node, env *[]slowBinding) impl.Type {
	return s.bounded(s.anyPattern(p, env))
}

func (s *slowTyper) anyPattern(p impl.Node, env *[]slowBinding) impl.Type {
	t := s.fresh()
	var types []impl.Type
	if p.Kind == impl.PVar || p.Kind == impl.PAs {
		*env = append(*env, slowBinding{name: p.Name, body: t})
	}
	for _, kid := range p.Kids {
		types = append(types, s.pattern(kid, env))
	}
	switch p.Kind {
	case impl.PCon:
		fields, data := s.con(p.Name)
		slowRefuse(len(fields) != len(types))
		for i := range fields {
			s.same(fields[i], types[i])
		}
		s.same(t, data)
	case impl.PNum:
		s.same(t, typeCon("Int"))
	case impl.PChar:
		s.same(t, typeCon("Char"))
	case impl.PStr:
		s.same(t, listOf(typeCon("Char")))
	case impl.PTuple:
		s.con(tupleOf(types).Name)
		s.same(t, tupleOf(types))
	case impl.PList:
		element := s.fresh()
		for _, kid := range types {
			s.same(element, kid)
		}
		s.same(t, listOf(element))
	case impl.PAs, impl.PLazy, impl.PBang:
		s.same(t, types[0])
	}
	return t
}

// instance types the methods of an instance, and has its clause.
func (s *slowTyper) instance(env []slowBinding, d impl.Node) impl.Node {
	info, _ := s.teller.inst(d)
	class := s.tables.Classes[slices.IndexFunc(s.tables.Classes, func(c impl.ClassInfo) bool { return c.Name == d.Name })]
	at := typeCon(info.Con)
	for range info.Vars {
		s.last++
		at.Args = append(at.Args, typeCon("?"+strconv.FormatInt(s.last, 10)))
	}
	arguments := argumentsAt(1, len(info.Preds))
	for k, p := range info.Preds {
		s.promises = append(s.promises, slowPromise{p.Class, at.Args[p.Id].Name, arguments[k]})
	}
	var fields, clauses []impl.Node
	for _, super := range class.Supers {
		w, hole := s.want(super, at)
		slowRefuse(len(s.met([]slowWant{w})) > 0)
		fields = append(fields, hole)
	}
	for _, m := range class.Methods {
		fields = append(fields, tree(impl.NVar, "m:"+m))
		b := s.lookup(env, m)
		types := map[int64]impl.Type{b.preds[0].Id: at}
		b.preds = b.preds[1:]
		own := slices.DeleteFunc(kidsOf(d, impl.DClause), func(c impl.Node) bool { return c.Name != m })
		for _, c := range s.signedThing(env, b, types, own, 2) {
			clauses = append(clauses, tree(c.Kind, "m:"+m, c.Kids...))
		}
	}
	right := tree(impl.NRhs, "", append([]impl.Node{applied(tree(impl.NCon, "dict:"+d.Name), fields)}, clauses...)...)
	return withArguments([]impl.Node{tree(impl.DClause, "inst:"+d.Name+":"+info.Con, right)}, arguments)[0]
}

func slowSelectors(classes []impl.ClassInfo) []impl.Node {
	var made []impl.Node
	for _, c := range classes {
		var names []string
		for _, super := range c.Supers {
			names = append(names, "super:"+c.Name+":"+super)
		}
		names = append(names, c.Methods...)
		for i, name := range names {
			wild := slices.Repeat([]impl.Node{tree(impl.PWild, "")}, len(names))
			wild[i] = tree(impl.PVar, "x")
			made = append(made, tree(impl.DClause, name, tree(impl.PCon, "dict:"+c.Name, wild...), tree(impl.NRhs, "", tree(impl.NVar, "x"))))
		}
	}
	return made
}

// good says whether something types, and leaves no need.
func (s *slowTyper) good(do func()) (good bool) {
	defer func() {
		if fault := recover(); fault != nil {
			if _, own := fault.(slowUntyped); !own {
				panic(fault)
			}
			good = false
		}
	}()
	s.wants, s.count, s.noted = nil, 0, nil
	do()
	for _, t := range s.noted {
		s.refuseLarge(t)
	}
	return len(s.wants) == 0
}

// hasNone says whether a signature of a name in a tree has no scheme.
func (s *slowTyper) hasNone(n impl.Node) bool {
	found := false
	eachNode(n, func(n impl.Node) {
		found = found || n.Kind == impl.DSig && len(n.Kids[0].Kids) > 0 && s.teller.scheme(n.Kids[1], n.Kids[2], nil).none != 0
	})
	return found
}

// inferSlowly is what InferProgram is to answer.
func inferSlowly(list []impl.Node) impl.InferResult {
	tables := tablesSlowly(list)
	if tables.Code != 0 {
		return impl.InferResult{Code: 1, Name: tables.Name}
	}
	decls := resolveSlowly(list).Decls
	s := &slowTyper{teller: tellerOf(decls), tables: tables.Tables, binds: map[int64]impl.Type{}, groups: [][]string{nil}}
	things := slowThings(decls)
	groups := ordered(things)
	instances := kidsOf(tree(0, "", decls...), impl.DInst)
	for _, group := range groups {
		for _, one := range group {
			if slices.ContainsFunc(one.clauses, s.hasNone) || one.sig != nil && s.hasNone(*one.sig) {
				return impl.InferResult{Code: 2, Name: group[0].name}
			}
		}
	}
	for _, d := range instances {
		if s.hasNone(d) {
			return impl.InferResult{Code: 2, Name: d.Name}
		}
	}
	var env []slowBinding
	for _, name := range impl.BuiltinNames() {
		env = append(env, bindingOf(s, name, impl.BuiltinType(name)))
	}
	for _, m := range tables.Tables.Methods {
		env = append(env, bindingOf(s, m.Name, m.Scheme))
	}
	for _, one := range things {
		if one.sig != nil {
			env = append(env, s.signed(one))
		}
	}
	made := map[string][]impl.Node{}
	for _, group := range groups {
		if !s.good(func() { env = s.unit(env, group, 1, made) }) {
			return impl.InferResult{Code: 2, Name: group[0].name}
		}
	}
	r := impl.InferResult{Binds: slowSelectors(tables.Tables.Classes)}
	for _, d := range instances {
		if !s.good(func() { r.Binds = append(r.Binds, s.instance(env, d)) }) {
			return impl.InferResult{Code: 2, Name: d.Name}
		}
	}
	for _, one := range things {
		scheme := impl.Scheme{}
		if one.sig != nil {
			scheme = s.teller.scheme(one.sig.Kids[1], one.sig.Kids[2], nil).Scheme
		} else {
			b := s.lookup(env, one.name)
			scheme = closeSlowly(b.body, b.preds, nil)
		}
		r.Types = append(r.Types, impl.Typed{Name: one.name, Scheme: scheme})
		r.Binds = append(r.Binds, made[one.name]...)
	}
	for i := range r.Binds {
		r.Binds[i] = s.filled(r.Binds[i])
	}
	return r
}

func typedText(x impl.Typed) string { return x.Name + " :: " + schemeText(x.Scheme) }

// inferredText has all of an answer.
func inferredText(r impl.InferResult) string {
	if r.Code != 0 {
		return glue("?"+strconv.FormatInt(r.Code, 10), r.Name, strings.Join(textsOf(r.Types, typedText), ""), declsText(r.Binds))
	}
	return strings.Join(textsOf(r.Types, typedText), "\n") + "\n" + joined(r.Binds, "\n", kinded) + "\n" + joined(r.Binds, "\n", declText)
}

// checkInferred holds what is answered against the second reading.
func checkInferred(t *testing.T, list []impl.Node) impl.InferResult {
	t.Helper()
	got, want := impl.InferProgram(list), inferSlowly(list)
	if inferredText(got) != inferredText(want) {
		t.Fatalf("%s\nis\n%s\nnot\n%s", strings.Join(textsOf(list, impl.Print), "\n"), inferredText(got), inferredText(want))
	}
	return got
}

// toldTypes has the types of an answer, without the module's name, or ? with the name, at code 1 ?? with it.
func toldTypes(r impl.InferResult) string {
	if r.Code != 0 {
		return strings.Repeat("?", 3-int(r.Code)) + r.Name
	}
	return strings.Join(textsOf(r.Types, func(x impl.Typed) string {
		return strings.TrimPrefix(x.Name, "M.") + " :: " + impl.FormatScheme(x.Scheme)
	}), "; ")
}

// checkTypes compares the types of things of a module behind what is ahead with a text.
func checkTypes(t *testing.T, ahead string, rows [][2]string) {
	t.Helper()
	for _, row := range rows {
		r := checkInferred(t, []impl.Node{parsed(t, "module M where {"+ahead+row[0]+"}")})
		if got := toldTypes(r); got != row[1] {
			t.Errorf("%s\nis\n%s\nnot\n%s", row[0], got, row[1])
		}
	}
}

// clausesText writes clauses as Print would, without the module's name.
func clausesText(binds []impl.Node) string {
	text := strings.ReplaceAll(joined(binds, ";", declText), "M.", "")
	return strings.Join(strings.Fields(regexp.MustCompile(`\( (#[0-9.]+) \)`).ReplaceAllString(text, "$1")), " ")
}

// checkBinds compares what becomes of the clauses of things behind what is ahead with a text.
func checkBinds(t *testing.T, ahead string, rows [][2]string) {
	t.Helper()
	for _, row := range rows {
		r := checkInferred(t, []impl.Node{parsed(t, "module M where {"+ahead+row[0]+"}")})
		own := slices.DeleteFunc(slices.Clone(r.Binds), func(d impl.Node) bool {
			return !slices.ContainsFunc(r.Types, func(x impl.Typed) bool { return x.Name == d.Name })
		})
		if got := clausesText(own); got != row[1] || r.Code != 0 {
			t.Errorf("%s\nis\n%s %s\nnot\n%s", row[0], got, r.Name, row[1])
		}
	}
}

// checkAllBinds compares all clauses of a module with a text.
func checkAllBinds(t *testing.T, rows [][2]string) {
	t.Helper()
	for _, row := range rows {
		r := checkInferred(t, []impl.Node{parsed(t, "module M where {"+row[0]+"}")})
		if got := clausesText(r.Binds); got != row[1] || r.Code != 0 {
			t.Errorf("%s\nis\n%s %s\nnot\n%s", row[0], got, r.Name, row[1])
		}
	}
}

func tellerOf(decls []impl.Node) *slowTeller {
	whole := impl.Node{Kids: decls}
	return &slowTeller{decls: decls, datas: kidsOf(whole, impl.DData), classes: kidsOf(whole, impl.DClass), builtins: slowBuiltins().Datas}
}
