package tests

import (
	"math/big"
	"regexp"
	"slices"
	"strconv"
	"strings"
	"testing"

	"loop.example/g00017/impl"
)

// The second reading of chapter 14: names of prims that nothing around binds are marked ahead; terms are made from inside out, each new name with a mark of its own; at last a walk from outside in gives the numbers.

// slowPrim is the kind of an NVar that is a prim.
const slowPrim = -3

// The marks of new names; at a let of the second sort a range begins.
const (
	slowNew   = "new "
	slowRange = "range "
)

type slowSugar struct {
	tables impl.Tables
	marks  int
}

func (s *slowSugar) mark(sort string) string {
	s.marks++
	return sort + strconv.Itoa(s.marks)
}

func (s *slowSugar) marksOf(count int) []string {
	var names []string
	for range count {
		names = append(names, s.mark(slowNew))
	}
	return names
}

// primsMarked marks the prims of a tree, with the names that are bound around it.
func primsMarked(n impl.Node, bound []string) impl.Node {
	own, last := tree(n.Kind, n.Name), len(n.Kids)-1
	switch n.Kind {
	case impl.NVar:
		if primCounts()[n.Name] > 0 && !slices.Contains(bound, n.Name) {
			own.Kind = slowPrim
		}
		return own
	case impl.NComp:
		own.Kids = make([]impl.Node, 1)
		for _, q := range n.Kids[1:] {
			source := primsMarked(q.Kids[len(q.Kids)-1], bound)
			own.Kids = append(own.Kids, tree(q.Kind, "", append(slices.Clone(q.Kids[:len(q.Kids)-1]), source)...))
			if q.Kind == impl.NGen {
				bound = slices.Concat(bound, boundIn(q.Kids[0]))
			}
		}
		own.Kids[0] = primsMarked(n.Kids[0], bound)
		return own
	case impl.DClause, impl.NLam, impl.NAlt:
		for _, p := range n.Kids[:last] {
			bound = slices.Concat(bound, boundIn(p))
		}
	case impl.NLet, impl.NRhs:
		for _, d := range kidsOf(n, impl.DClause) {
			bound = slices.Concat(bound, []string{d.Name})
		}
	}
	for _, kid := range n.Kids {
		own.Kids = append(own.Kids, primsMarked(kid, bound))
	}
	return own
}

// coreSlowly is what CoreOf is to answer.
func coreSlowly(list []impl.Node, main string) impl.Core {
	r := impl.InferProgram(list)
	if r.Code != 0 || !slices.ContainsFunc(r.Binds, func(d impl.Node) bool { return d.Name == main }) {
		return impl.Core{}
	}
	s := &slowSugar{tables: impl.TableOf(list).Tables}
	var clauses []impl.Node
	for _, d := range r.Binds {
		clauses = append(clauses, primsMarked(d, nil))
	}
	made := s.let(slowThings(clauses), coreVar(main))
	at := len(made.Names)
	made.Names = append(made.Names, "primAppend", "negate")
	made.Kids = slices.Insert(made.Kids, at, readCore(`(\a b -> (case a of { [] -> b; : x y -> (: x (append y b)) }))`), readCore(`(\a -> (primSub 0 a))`))
	made.Kids[at].Kids[0].Alts[1].Body.Kids[1].Kids[0].Name = "primAppend"
	numberNames(&made, map[string]string{})
	if coreFaultSlowly(made) != 0 {
		return impl.Core{}
	}
	return made
}

// numberNames gives numbers to new names in the order in which they are asked for.
func numberNames(c *impl.Core, known map[string]string) {
	ask := func(names []string) {
		for i, name := range names {
			if _, again := known[name]; !again && (strings.HasPrefix(name, slowNew) || strings.HasPrefix(name, slowRange)) {
				known[name] = "@" + strconv.Itoa(len(known)+1)
			}
			if number, isNew := known[name]; isNew {
				names[i] = number
			}
		}
	}
	isRange := len(c.Names) > 0 && strings.HasPrefix(c.Names[0], slowRange)
	ask(c.Names)
	if isRange {
		ask(c.Kids[1].Names)
	}
	if number, isNew := known[c.Name]; isNew && c.Kind == impl.CVar {
		c.Name = number
	}
	for _, place := range corePlaces(c) {
		for i := range c.Alts {
			if place.part == &c.Alts[i].Body {
				ask(c.Alts[i].Names)
			}
		}
		numberNames(place.part, known)
	}
}

func (s *slowSugar) let(things []slowThing, inner impl.Core) impl.Core {
	if len(things) == 0 {
		return inner
	}
	made := impl.Core{Kind: impl.CLet}
	for _, one := range things {
		made.Names = append(made.Names, one.name)
		made.Kids = append(made.Kids, s.function(one.name, one.clauses))
	}
	made.Kids = append(made.Kids, inner)
	return made
}

func letOne(name string, stands, inner impl.Core) impl.Core {
	return impl.Core{Kind: impl.CLet, Names: []string{name}, Kids: []impl.Core{stands, inner}}
}

func ifCore(test, yes, no impl.Core) impl.Core {
	return coreCase("", []impl.Core{test}, coreAlt("True", yes), coreAlt("False", no))
}

// function has clauses, or a lambda, as a function from as many names as they have patterns.
func (s *slowSugar) function(where string, clauses []impl.Node) impl.Core {
	names := s.marksOf(len(clauses[0].Kids) - 1)
	body := s.turns(where, clauses, names)
	if len(names) == 0 {
		return body
	}
	return impl.Core{Kind: impl.CLam, Names: names, Kids: []impl.Core{body}}
}

// turns has clauses from the last one to the first, each with those behind it as what it fails at.
func (s *slowSugar) turns(where string, clauses []impl.Node, names []string) impl.Core {
	rest := corePrim("primError", coreString("no match in "+where))
	for _, c := range slices.Backward(clauses) {
		fail, last := s.mark(slowNew), len(c.Kids)-1
		own := s.right(c.Kids[last], fail)
		for i, p := range slices.Backward(c.Kids[:last]) {
			own = s.against(p, names[i], fail, own)
		}
		rest = letOne(fail, rest, own)
	}
	return rest
}

func (s *slowSugar) right(n impl.Node, fail string) impl.Core {
	if n.Kind != impl.NRhs {
		return s.e(n)
	}
	body := coreVar(fail)
	for _, kid := range slices.Backward(n.Kids) {
		switch kid.Kind {
		case impl.DClause:
		case impl.NGuard:
			body = ifCore(s.e(kid.Kids[0]), s.e(kid.Kids[1]), body)
		default:
			body = s.e(kid)
		}
	}
	return s.let(slowThings(n.Kids), body)
}

// against has a pattern against a name, with what follows.
func (s *slowSugar) against(p impl.Node, v, fail string, follow impl.Core) impl.Core {
	switch p.Kind {
	case impl.PWild:
		return follow
	case impl.PVar:
		return letOne(p.Name, coreVar(v), follow)
	case impl.PAs:
		return letOne(p.Name, coreVar(v), s.against(p.Kids[0], v, fail, follow))
	case impl.PBang:
		return corePrim("primSeq", coreVar(v), s.against(p.Kids[0], v, fail, follow))
	case impl.PLazy:
		for _, name := range slices.Backward(boundIn(p.Kids[0])) {
			own := s.mark(slowNew)
			found := s.against(p.Kids[0], v, own, coreVar(name))
			follow = letOne(name, letOne(own, corePrim("primError", coreString("no match in lazy")), found), follow)
		}
		return follow
	case impl.PNum:
		value, _ := new(big.Int).SetString(p.Name, 10)
		return ifCore(corePrim("primEq", coreVar(v), impl.Core{Kind: impl.CInt, Big: bigFrom(value)}), follow, coreVar(fail))
	case impl.PChar:
		return ifCore(corePrim("primEq", corePrim("primOrd", coreVar(v)), coreInt(int64(p.Name[0]))), follow, coreVar(fail))
	}
	cell := cellsOf(p)
	names := s.marksOf(len(cell.Kids))
	for i, kid := range slices.Backward(cell.Kids) {
		follow = s.against(kid, names[i], fail, follow)
	}
	made := coreCase("", []impl.Core{coreVar(v)}, impl.CoreAlt{Con: cell.Name, Names: names, Body: follow})
	if cell.Name[0] != '(' && !strings.HasPrefix(cell.Name, "dict:") {
		made.Kids = append(made.Kids, coreVar(fail))
	}
	return made
}

// takes has how many kids a prim or constructor takes, and -1 of anything else.
func (s *slowSugar) takes(n impl.Node) int {
	switch {
	case n.Kind == slowPrim:
		return primCounts()[n.Name]
	case n.Kind == impl.NCon && strings.HasPrefix(n.Name, "dict:"):
		for _, c := range s.tables.Classes {
			if "dict:"+c.Name == n.Name {
				return len(c.Supers) + len(c.Methods)
			}
		}
	case n.Kind == impl.NCon:
		return len(impl.FindCon(s.tables, n.Name).Fields)
	}
	return -1
}

func filledCore(n impl.Node, kids []impl.Core) impl.Core {
	if n.Kind == slowPrim {
		return corePrim(n.Name, kids...)
	}
	return coreCon(n.Name, kids...)
}

func (s *slowSugar) several(nodes []impl.Node) []impl.Core { return mapped(nodes, s.e) }

func mapped[A, B any](list []A, turn func(A) B) []B {
	var made []B
	for _, one := range list {
		made = append(made, turn(one))
	}
	return made
}

func (s *slowSugar) app(n impl.Node) impl.Core {
	head, args := n.Kids[0], s.several(n.Kids[1:])
	made := impl.Core{}
	if takes := s.takes(head); takes >= 0 && takes <= len(args) {
		made, args = filledCore(head, args[:takes:takes]), args[takes:]
	} else {
		made = s.e(head)
	}
	if len(args) == 0 {
		return made
	}
	return coreApp(append([]impl.Core{made}, args...)...)
}

func (s *slowSugar) e(n impl.Node) impl.Core {
	last := len(n.Kids) - 1
	switch n.Kind {
	case impl.NVar:
		return coreVar(n.Name)
	case impl.NCon, slowPrim:
		names := s.marksOf(s.takes(n))
		if len(names) == 0 {
			return coreCon(n.Name)
		}
		return impl.Core{Kind: impl.CLam, Names: names, Kids: []impl.Core{filledCore(n, mapped(names, coreVar))}}
	case impl.NNum:
		value, _ := new(big.Int).SetString(n.Name, 10)
		return impl.Core{Kind: impl.CInt, Big: bigFrom(value)}
	case impl.NChar:
		return coreChar(n.Name)
	case impl.NStr:
		if n.Name == "" {
			return coreCon("[]")
		}
		return coreString(n.Name)
	case impl.NApp:
		return s.app(n)
	case impl.NLam:
		return s.function("lambda", []impl.Node{n})
	case impl.NLet:
		return s.let(slowThings(n.Kids[:last]), s.e(n.Kids[last]))
	case impl.NIf:
		return ifCore(s.e(n.Kids[0]), s.e(n.Kids[1]), s.e(n.Kids[2]))
	case impl.NTuple:
		return coreCon(tupleOf(make([]impl.Type, len(n.Kids))).Name, s.several(n.Kids)...)
	case impl.NList:
		made := coreCon("[]")
		for _, kid := range slices.Backward(n.Kids) {
			made = coreCon(":", s.e(kid), made)
		}
		return made
	case impl.NCase:
		v := s.mark(slowNew)
		return letOne(v, s.e(n.Kids[0]), s.turns("case", n.Kids[1:], []string{v}))
	case impl.NRange:
		e, h, at := s.mark(slowRange), s.mark(slowNew), s.mark(slowNew)
		more := coreCon(":", coreVar(at), coreApp(coreVar(h), corePrim("primAdd", coreVar(at), coreInt(1))))
		body := ifCore(corePrim("primLess", coreVar(e), coreVar(at)), coreCon("[]"), more)
		loop := impl.Core{Kind: impl.CLam, Names: []string{at}, Kids: []impl.Core{body}}
		return impl.Core{Kind: impl.CLet, Names: []string{e, h}, Kids: []impl.Core{s.e(n.Kids[1]), loop, coreApp(coreVar(h), s.e(n.Kids[0]))}}
	case impl.NComp:
		return s.comp(n.Kids[1:], n.Kids[0], coreCon("[]"))
	}
	panic("no expression")
}

// comp has qualifiers with a tail, which has no new names in it.
func (s *slowSugar) comp(qualifiers []impl.Node, head impl.Node, tail impl.Core) impl.Core {
	if len(qualifiers) == 0 {
		return coreCon(":", s.e(head), tail)
	}
	q := qualifiers[0]
	if q.Kind == impl.NTest {
		return ifCore(s.e(q.Kids[0]), s.comp(qualifiers[1:], head, tail), tail)
	}
	names := s.marksOf(5)
	h, l, y, r, f := names[0], names[1], names[2], names[3], names[4]
	step := letOne(f, coreApp(coreVar(h), coreVar(r)), s.against(q.Kids[0], y, f, s.comp(qualifiers[1:], head, coreVar(f))))
	body := coreCase("", []impl.Core{coreVar(l)}, impl.CoreAlt{Con: "[]", Body: tail}, impl.CoreAlt{Con: ":", Names: []string{y, r}, Body: step})
	loop := impl.Core{Kind: impl.CLam, Names: []string{l}, Kids: []impl.Core{body}}
	return letOne(h, loop, coreApp(coreVar(h), s.e(q.Kids[1])))
}

// checkSugar holds what is answered against the second reading.
func checkSugar(t *testing.T, list []impl.Node, main string) impl.Core {
	t.Helper()
	got, want := impl.CoreOf(list, main), coreSlowly(list, main)
	if coreText(got) != coreText(want) {
		t.Fatalf("%s\nis\n%s\nnot\n%s", strings.Join(textsOf(list, impl.Print), "\n"), formatCoreSlowly(got), formatCoreSlowly(want))
	}
	if got.Kind != 0 && (impl.CoreFault(got) != 0 || impl.FreeNames(got) != nil) {
		t.Fatalf("%s\nhas a fault or free names", formatCoreSlowly(got))
	}
	return got
}

// builtinCores is what stands behind all things of a program.
const builtinCores = `; primAppend = (\a b -> (case a of { [] -> b; : x y -> (: x (primAppend y b)) })); negate = (\a -> (primSub 0 a)) in `

// spelledOut has what no match tells for "!" and the name of where it is.
func spelledOut(text string) string {
	return regexp.MustCompile(`!([^ ();]+)`).ReplaceAllString(text, `(primError "no match in $1")`)
}

// checkCores compares the whole term of modules with a text of its things, with M.f as main.
func checkCores(t *testing.T, ahead string, rows [][2]string) {
	t.Helper()
	for _, row := range rows {
		list := modulesOf(t, "module M where { "+ahead+row[0]+" }")
		got := impl.FormatCore(checkSugar(t, list, "M.f"))
		if want := "(let " + spelledOut(row[1]) + builtinCores + "M.f)"; got != want {
			t.Errorf("%s\nis\n%s\nnot\n%s", row[0], got, want)
		}
	}
}

// checkThing compares the term of M.f alone with a text; the numbers of new names go on from those of what is ahead.
func checkThing(t *testing.T, ahead string, rows [][2]string) {
	t.Helper()
	for _, row := range rows {
		got := checkSugar(t, modulesOf(t, "module M where { "+ahead+row[0]+" }"), "M.f")
		at := slices.Index(got.Names, "M.f")
		if at < 0 {
			t.Errorf("%s has no term", row[0])
			continue
		}
		if text, want := impl.FormatCore(got.Kids[at]), spelledOut(row[1]); text != want {
			t.Errorf("%s\nis\n%s\nnot\n%s", row[0], text, want)
		}
	}
}
