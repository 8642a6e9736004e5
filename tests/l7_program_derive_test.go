package tests

import (
	"fmt"
	"math/rand/v2"
	"slices"
	"strings"
	"testing"

	"loop.example/g00017/impl"
)

// dataOf makes a data with constructors of so many fields each.
func dataOf(name string, variables []string, fields ...int) impl.Node {
	d := tree(impl.DData, name, tree(impl.DNames, ""))
	for _, v := range variables {
		d.Kids[0].Kids = append(d.Kids[0].Kids, tree(impl.DItem, v))
	}
	for i, count := range fields {
		c := tree(impl.DConstr, fmt.Sprint("C", i))
		for range count {
			c.Kids = append(c.Kids, tree(impl.TCon, "Int"))
		}
		d.Kids = append(d.Kids, c)
	}
	d.Kids = append(d.Kids, tree(impl.DNames, ""))
	return d
}

func TestDerivedTexts(t *testing.T) {
	for _, row := range []struct{ data, class, method, want string }{
		{"data T = C", "Eq", "==", "instance Eq T where { ( == ) C C = True }"}, {"data T = C a", "Eq", "==", "instance Eq T where { ( == ) ( C a1 ) ( C b1 ) = ( ( == ) a1 b1 ) }"}, {"data T = C a b c", "Eq", "==", "instance Eq T where { ( == ) ( C a1 a2 a3 ) ( C b1 b2 b3 ) = ( if ( ( == ) a1 b1 ) then ( if ( ( == ) a2 b2 ) then ( ( == ) a3 b3 ) else False ) else False ) }"}, {"data T a b = C a b | D", "Eq", "==", "instance ( Eq a , Eq b ) => Eq ( T a b ) where { ( == ) ( C a1 a2 ) ( C b1 b2 ) = ( if ( ( == ) a1 b1 ) then ( ( == ) a2 b2 ) else False ) ; ( == ) D D = True ; ( == ) _ _ = False }"},
		{"data T = C", "Ord", "<=", "instance Ord T where { ( <= ) C C = True }"}, {"data T x = C | D x Int Int | E", "Ord", "m", "instance ( Ord x ) => Ord ( T x ) where { m C C = True ; m C _ = True ; m _ C = False ; m ( D a1 a2 a3 ) ( D b1 b2 b3 ) = ( if ( m a1 b1 ) then ( if ( m b1 a1 ) then ( if ( m a2 b2 ) then ( if ( m b2 a2 ) then ( m a3 b3 ) else True ) else False ) else True ) else False ) ; m ( D _ _ _ ) _ = True ; m _ ( D _ _ _ ) = False ; m E E = True }"}, {"data T = C Int | D Int", "Ord", "<=", "instance Ord T where { ( <= ) ( C a1 ) ( C b1 ) = ( ( <= ) a1 b1 ) ; ( <= ) ( C _ ) _ = True ; ( <= ) _ ( C _ ) = False ; ( <= ) ( D a1 ) ( D b1 ) = ( ( <= ) a1 b1 ) }"},
		{"data T = C", "Show", "show", "instance Show T where { show C = \"C\" }"}, {"data T a = C a | D | E a Int", "Show", "show", "instance ( Show a ) => Show ( T a ) where { show ( C a1 ) = ( primAppend \"(C\" ( primAppend \" \" ( primAppend ( show a1 ) \")\" ) ) ) ; show D = \"D\" ; show ( E a1 a2 ) = ( primAppend \"(E\" ( primAppend \" \" ( primAppend ( show a1 ) ( primAppend \" \" ( primAppend ( show a2 ) \")\" ) ) ) ) ) }"}, {"data T = C a", "A.Eq", "A.==", "instance A.Eq T where { A.== ( C a1 ) ( C b1 ) = ( A.== a1 b1 ) }"}, {"data T x x = C deriving ( Eq , Ord )", "L.Show", "", "instance ( L.Show x , L.Show x ) => L.Show ( T x x ) where { ? C = \"C\" }"},
	} {
		d := parsed(t, "module M where { "+row.data+" }").Kids[1]
		got := checkDerived(t, d, row.class, row.method)
		for i := range got.Kids[2:] {
			if got.Kids[2+i].Name == "" {
				got.Kids[2+i].Name = "?a"
			}
		}
		if text := strings.ReplaceAll(declText(got), "( ?a )", "?"); text != row.want {
			t.Errorf("%s of %s is\n%s, not\n%s", row.class, row.data, text, row.want)
		}
	}
}

// Classes of all sorts, for datas of all sorts.
func TestDerivedClasses(t *testing.T) {
	classes := map[string]bool{"Eq": true, "Ord": true, "Show": true, "A.Eq": true, "Ab_1'.Ord": true, "Z.Show": true}
	for _, class := range []string{"", "Num", "eq", "Eq ", " Eq", "A.Num", ".Eq", "A.", ".", "A..Eq", "A.B.Eq", "a.Eq", "1.Eq", "_.Eq", "A .Eq", "+.Eq", "Eq.A", "Eq.", "A.Eq.", "A.Eq.Eq", "A-.Eq", "\xc3\x84.Eq", "A\xc3\x84.Eq", "where.Eq", "A.eq", "..Eq", "A.Show\x00"} {
		classes[class] = false
	}
	classes[strings.Repeat("A", impl.MaxSource)+".Eq"] = true
	classes[strings.Repeat("A", impl.MaxSource+1)+".Eq"] = false
	for class, good := range classes {
		for _, d := range []impl.Node{dataOf("T", nil, 0), dataOf("T", []string{"a", "b"}, 2, 0, 1), dataOf("", []string{""}, 3)} {
			got := checkDerived(t, d, class, "m")
			if (got.Kind == impl.DInst) != good || !good && !sameSlowly(got, impl.Node{}) {
				t.Errorf("%.40q of %s is %.200s", class, kinded(d), kinded(got))
			}
		}
	}
}

// The own names of constructors are told, whatever stands ahead of them.
func TestOwnNames(t *testing.T) {
	for _, row := range [][2]string{
		{"C", "C"}, {"A.C", "C"}, {"A.B.C", "B.C"}, {".x", ".x"}, {"A.", "A."}, {"a.b", "a.b"}, {"A..", "."}, {".", "."}, {"", ""}, {"..", ".."}, {"...", "..."}, {"A...", ".."}, {"A.+", "+"}, {"A..+", ".+"}, {".A.b", ".A.b"}, {"A'_9.x", "x"}, {"A b.x", "A b.x"}, {"A\n.x", "A\n.x"}, {"A.\n", "\n"}, {":.x", ":.x"}, {"A:.x", "A:.x"}, {"9.x", "9.x"}, {"_A.x", "_A.x"}, {"\x80.x", "\x80.x"}, {"A\x80.x", "A\x80.x"}, {"A.\x80", "\x80"}, {"x.A.b", "x.A.b"}, {"B", "B"}, {"A.B.", "B."}, {"A. ", " "},
	} {
		d := dataOf("T", nil, 0, 1)
		d.Kids[1].Name, d.Kids[2].Name = row[0], row[0]
		got := checkDerived(t, d, "Show", "m")
		if alone := got.Kids[2].Kids[1].Kids[0].Name; alone != row[1] {
			t.Errorf("%q is told as %q, not %q", row[0], alone, row[1])
		}
		if inBrackets := got.Kids[3].Kids[1].Kids[0].Kids[1].Name; inBrackets != "("+row[1] {
			t.Errorf("%q is told as %q, not %q", row[0], inBrackets, "("+row[1])
		}
	}
}

// Names may be any, kids may not.
func TestDerivedOfStrangeTrees(t *testing.T) {
	named := dataOf("", []string{"+", "", "A.b", "\x00"}, 0, 2)
	named.Kids[1].Name, named.Kids[2].Name = "x y", "\xff."
	named.Kids[2].Kids[0] = tree(impl.TApp, "name", tree(impl.TCon, ""), tree(impl.TTuple, "()"), tree(impl.TList, "l", tree(impl.TFun, "->", tree(impl.TVar, "1"), tree(impl.TVar, "A")))) // kinds without a name may have one
	all := dataOf("T", nil, 1)
	all.Kids[0].Name, all.Kids[2].Name = "all", "x"
	all.Kids[2].Kids = []impl.Node{tree(impl.DItem, "")}
	for _, d := range []impl.Node{named, all, dataOf("where", []string{"T", "T"}, 1)} {
		for _, class := range []string{"Eq", "A.Ord", "Show"} {
			if got := checkDerived(t, d, class, "\n"); got.Kind != impl.DInst {
				t.Errorf("%s of %s is %s", class, kinded(d), kinded(got))
			}
		}
	}
	names, c, x := tree(impl.DNames, ""), tree(impl.DConstr, "C"), tree(impl.NVar, "x")
	item, ty := tree(impl.DNames, "", tree(impl.DItem, "x")), tree(impl.TVar, "a")
	for _, d := range []impl.Node{
		{}, x, c, names, tree(impl.DData, "T"), tree(impl.DData, "T", names), tree(impl.DData, "T", names, names), tree(impl.DData, "T", names, c), tree(impl.DData, "T", c, names), tree(impl.DData, "T", c, c, names), tree(impl.DData, "T", names, c, names, c), tree(impl.DData, "T", names, c, names, names), tree(impl.DData, "T", names, c, c), tree(impl.DData, "T", names, x, names), tree(impl.DData, "T", names, c, tree(99, ""), names), tree(impl.DData, "T", names, c, impl.Node{}, names), tree(impl.DClass, "T", names, c, names), tree(0, "T", names, c, names),
		tree(impl.DData, "T", tree(impl.DNames, "", x), c, names), tree(impl.DData, "T", names, c, tree(impl.DNames, "", x)), tree(impl.DData, "T", tree(impl.DNames, "", tree(impl.DItem, "x", x)), c, names), tree(impl.DData, "T", names, c, tree(impl.DNames, "", tree(impl.DItem, "x", x))), tree(impl.DData, "T", names, tree(impl.DConstr, "C", x), names), tree(impl.DData, "T", names, tree(impl.DConstr, "C", ty, tree(impl.PVar, "x")), names), tree(impl.DData, "T", names, c, tree(impl.DConstr, "D", tree(impl.TApp, "", ty)), names), tree(impl.DData, "T", names, tree(impl.DConstr, "C", tree(impl.TList, "")), names), tree(impl.DData, "T", names, tree(impl.DConstr, "C", tree(impl.TFun, "", ty, tree(impl.TTuple, "", ty))), names), tree(impl.DData, "T", names, tree(impl.DConstr, "C", tree(impl.TVar, "a", ty)), names), tree(impl.DData, "T", item, tree(impl.DConstr, "C", tree(impl.TCon, "a", tree(impl.NNum, "01"))), item), parsed(t, "module M where { data T = C }"),
	} {
		for _, class := range []string{"Eq", "A.Ord", "Show", "Num"} {
			if got := impl.Derive(d, class, "m"); !sameSlowly(got, impl.Node{}) {
				t.Errorf("%s of %s is %s", class, kinded(d), kinded(got))
			}
		}
	}
	around := tree(impl.TList, "", ty) // a type that stands in itself
	around.Kids[0] = around
	twice := ty // a type of more nodes than can be gone through
	for range 100 {
		twice = tree(impl.TFun, "", twice, twice)
	}
	for _, field := range []impl.Node{around, twice, tree(impl.TApp, "", twice, around, twice)} {
		good := tree(impl.DData, "T", names, tree(impl.DConstr, "C", field), names)
		if got := impl.Derive(good, "Eq", "m"); declText(got) != "instance Eq T where { m ( C a1 ) ( C b1 ) = ( m a1 b1 ) }" {
			t.Errorf("%s", declText(got))
		}
		bad := tree(impl.DData, "T", names, tree(impl.DConstr, "C", tree(impl.TTuple, "", field, tree(impl.TTuple, "", ty))), names)
		if got := impl.Derive(bad, "Eq", "m"); !sameSlowly(got, impl.Node{}) {
			t.Errorf("%s", declText(got))
		}
	}
}

func TestDerivedOfDrawnDatas(t *testing.T) {
	r := rand.New(rand.NewPCG(7, 2))
	m := treeMaker{r}
	names := []string{"C", "A.C", "A.B.C", ".", "x", "", "True", "a1", "s'", "\"", "A.+"}
	for range 4000 {
		d := tree(impl.DData, m.one(names...), m.names())
		for range 1 + r.IntN(5) {
			d.Kids = append(d.Kids, tree(impl.DConstr, m.one(names...), m.some(0, 3, m.typ)...))
		}
		d.Kids = append(d.Kids, m.names())
		checkDerived(t, d, m.one("Eq", "Ord", "Show", "L.Eq", "L.Ord", "L.Show", "L.L.Eq", "K"), m.one("==", "L.<=", "show", "primAppend", "a1", ""))
	}
	for _, fields := range [][]int{{5000}, {0, 3000, 1}, make([]int, 4000)} { // long ones
		for _, class := range []string{"Eq", "Ord", "Show"} {
			if got := impl.Derive(dataOf("T", make([]string, 3000), fields...), class, "m"); got.Kind != impl.DInst || len(got.Kids[0].Kids) != 3000 || len(got.Kids) < 2+len(fields) {
				t.Errorf("%s of a long data has %d kids", class, len(got.Kids))
			}
		}
	}
	if got := impl.NodeCount(impl.Derive(dataOf("T", nil, 20000), "Ord", "m")); got != 3+1+2*20001+1+19999*(1+4+1+4+1+1)+4 {
		t.Errorf("the order of a long constructor has %d nodes", got)
	}
}

// Each data behind its name stands ahead of what is derived for it.
func TestDerivedInPrograms(t *testing.T) {
	const classes = "class Eq a where { (==) :: a } ; class Show a where { x , show :: a } ; class Ord a where { (<=) :: a }"
	const after = "class L.Eq a where { L.== :: a } ; class L.Show a where { L.x , L.show :: a } ; class L.Ord a where { L.<= :: a }"
	checkResolved(t, [][2]string{
		{"module L where { " + classes + " ; data T a = P a deriving ( Eq ) ; z = 1 }", after + " ; data L.T a = L.P a ; instance ( L.Eq a ) => L.Eq ( L.T a ) where { L.== ( L.P a1 ) ( L.P b1 ) = ( L.== a1 b1 ) } ; L.z = 1"}, {"module A where { import L ; data T = P | Q Int deriving ( Show , Ord ) ; data U = R deriving ( ) ; data V = S deriving ( Eq , Eq ) } module L where { " + classes + " }", after + " ; data A.T = A.P | A.Q Int ; instance L.Show A.T where { L.show A.P = \"P\" ; L.show ( A.Q a1 ) = ( primAppend \"(Q\" ( primAppend \" \" ( primAppend ( L.show a1 ) \")\" ) ) ) } ; instance L.Ord A.T where { L.<= A.P A.P = True ; L.<= A.P _ = True ; L.<= _ A.P = False ; L.<= ( A.Q a1 ) ( A.Q b1 ) = ( L.<= a1 b1 ) } ; data A.U = A.R ; data A.V = A.S ; instance L.Eq A.V where { L.== A.S A.S = True } ; instance L.Eq A.V where { L.== A.S A.S = True }"},
		{"module A where { import L ( Eq ) ; import M ( Show ) ; data T = P deriving ( Show , Eq ) } module L where { " + classes + " } module M where { class Show a where { show :: a } }", after + " ; class M.Show a where { M.show :: a } ; data A.T = A.P ; instance M.Show A.T where { M.show A.P = \"P\" } ; instance L.Eq A.T where { L.== A.P A.P = True }"}, {"module A where { data T = P deriving ( Eq ) ; class Eq a where { (==) :: a } ; (<=) = 1 ; primAppend = 2 ; data U = True }", "data A.T = A.P ; instance A.Eq A.T where { A.== A.P A.P = True } ; class A.Eq a where { A.== :: a } ; A.<= = 1 ; A.primAppend = 2 ; data A.U = A.True"},
	})
}

// A derivedValue is a constructor with values as fields.
type derivedValue struct {
	con    string
	fields []derivedValue
}

// written is a value as its source has it, in brackets if it has fields.
func (v derivedValue) written() string {
	if len(v.fields) == 0 {
		return v.con
	}
	text := "(" + v.con
	for _, f := range v.fields {
		text += " " + f.written()
	}
	return text + ")"
}

// A derivedRun works out methods by the clauses of instances.
type derivedRun struct {
	methods map[string]map[string][]impl.Node // by method and constructor of the first argument that is one
	tags    map[string]int
}

func newDerivedRun(decls []impl.Node) derivedRun {
	run := derivedRun{map[string]map[string][]impl.Node{}, map[string]int{}}
	for _, d := range decls {
		for i, c := range kidsOf(d, impl.DConstr) {
			run.tags[c.Name] = i
			for _, inst := range decls {
				if inst.Kind != impl.DInst || inst.Kids[1].Name != d.Name {
					continue
				}
				method := inst.Kids[2].Name
				if run.methods[method] == nil {
					run.methods[method] = map[string][]impl.Node{}
				}
				run.methods[method][c.Name] = inst.Kids[2:]
			}
		}
	}
	return run
}

func (run derivedRun) call(method string, arguments ...derivedValue) any {
	for _, clause := range run.methods[method][arguments[0].con] {
		bound := map[string]derivedValue{}
		fits := true
		for i, v := range arguments {
			p := clause.Kids[i]
			fits = fits && (p.Kind == impl.PWild || p.Name == v.con && len(p.Kids) == len(v.fields))
			for k := range p.Kids {
				if fits && p.Kids[k].Kind == impl.PVar {
					bound[p.Kids[k].Name] = v.fields[k]
				}
			}
		}
		if fits {
			return run.value(clause.Kids[len(arguments)].Kids[0], bound)
		}
	}
	panic("no clause of " + method)
}

func (run derivedRun) value(n impl.Node, bound map[string]derivedValue) any {
	switch {
	case n.Kind == impl.NCon:
		return n.Name == "True"
	case n.Kind == impl.NStr:
		return n.Name
	case n.Kind == impl.NIf && run.value(n.Kids[0], bound).(bool):
		return run.value(n.Kids[1], bound)
	case n.Kind == impl.NIf:
		return run.value(n.Kids[2], bound)
	case n.Kids[0].Name == "primAppend":
		return run.value(n.Kids[1], bound).(string) + run.value(n.Kids[2], bound).(string)
	}
	var arguments []derivedValue
	for _, kid := range n.Kids[1:] {
		v, ok := bound[kid.Name]
		if !ok {
			panic(kid.Name + " is not bound")
		}
		arguments = append(arguments, v)
	}
	return run.call(n.Kids[0].Name, arguments...)
}

// compare goes by constructors, then by fields from left to right.
func (run derivedRun) compare(a, b derivedValue) int {
	if a.con != b.con {
		return run.tags[a.con] - run.tags[b.con]
	}
	for i := range a.fields {
		if c := run.compare(a.fields[i], b.fields[i]); c != 0 {
			return c
		}
	}
	return 0
}

// What is derived is worked out for all values of some datas: equal exactly if built alike, in order, told as they are written.
func TestDerivedMeaning(t *testing.T) {
	const text = "module A where { class Eq a where { (==) :: a } ; class Ord a where { (<=) :: a } ; class Show a where { show :: a } ; data B = F | T' deriving ( Eq , Ord , Show ) ; data One = One deriving ( Show , Eq , Ord ) ; data P = P B B B | Q | R One P' | S B P' deriving ( Ord , Show , Eq ) ; data P' = P' B One B deriving ( Eq , Show , Ord ) }"
	got := checkProgram(t, modulesOf(t, text))
	if got.Code != 0 {
		t.Fatal(programText(got))
	}
	run := newDerivedRun(got.Decls)
	leaf := func(con string) derivedValue { return derivedValue{con: con} }
	bits, ones := []derivedValue{leaf("A.F"), leaf("A.T'")}, []derivedValue{leaf("A.One")}
	var inner, values []derivedValue
	for _, a := range bits {
		for _, b := range bits {
			inner = append(inner, derivedValue{"A.P'", []derivedValue{a, ones[0], b}})
			for _, c := range bits {
				values = append(values, derivedValue{"A.P", []derivedValue{a, b, c}})
			}
		}
	}
	values = append(values, leaf("A.Q"))
	for _, p := range inner {
		values = append(values, derivedValue{"A.R", []derivedValue{ones[0], p}})
	}
	for _, a := range bits {
		for _, p := range inner {
			values = append(values, derivedValue{"A.S", []derivedValue{a, p}})
		}
	}
	for _, sort := range [][]derivedValue{bits, ones, inner, values} {
		var texts []string
		for i, a := range sort {
			for j, b := range sort {
				if run.call("A.==", a, b) != (i == j) || (run.compare(a, b) == 0) != (i == j) {
					t.Errorf("%s == %s", a.written(), b.written())
				}
				if run.call("A.<=", a, b) != (i <= j) || (run.compare(a, b) <= 0) != (i <= j) {
					t.Errorf("%s <= %s", a.written(), b.written())
				}
			}
			shown := run.call("A.show", a).(string)
			if want := strings.ReplaceAll(a.written(), "A.", ""); shown != want || slices.Contains(texts, shown) {
				t.Errorf("%s is told as %s", want, shown)
			}
			texts = append(texts, shown)
		}
	}
}
