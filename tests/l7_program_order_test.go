package tests

import (
	"math/rand/v2"
	"slices"
	"strconv"
	"testing"

	"loop.example/g00017/impl"
)

// importing makes a module of a name that imports others.
func importing(name string, others ...string) impl.Node {
	n := tree(impl.DModule, name, tree(impl.DNames, "all"))
	for _, other := range others {
		n.Kids = append(n.Kids, tree(impl.DImport, other))
	}
	return n
}

// inEachOrder calls with each order of a list.
func inEachOrder[T any](list []T, call func([]T)) {
	var put func(done, left []T)
	put = func(done, left []T) {
		if len(left) == 0 {
			call(done)
		}
		for i := range left {
			put(append(slices.Clone(done), left[i]), slices.Concat(left[:i], left[i+1:]))
		}
	}
	put(nil, list)
}

func checkModuleOrder(t *testing.T, list []impl.Node) []int64 {
	t.Helper()
	got, want := impl.ModuleOrder(list), moduleOrderSlowly(list)
	if !slices.Equal(got, want) {
		var texts []string
		for _, n := range list {
			texts = append(texts, kinded(n))
		}
		t.Fatalf("%v: %v, not %v", texts, got, want)
	}
	return got
}

func TestModuleOrder(t *testing.T) {
	for _, row := range []struct {
		list []impl.Node
		want []int64
	}{
		{nil, nil}, {[]impl.Node{}, nil}, {[]impl.Node{importing("A")}, []int64{0}}, {[]impl.Node{importing("A"), importing("B"), importing("C")}, []int64{0, 1, 2}}, {[]impl.Node{importing("A", "B"), importing("B")}, []int64{1, 0}}, {[]impl.Node{importing("A"), importing("B", "A")}, []int64{0, 1}}, {[]impl.Node{importing("A", "B"), importing("B", "C"), importing("C")}, []int64{2, 1, 0}},
		{[]impl.Node{importing("A", "C"), importing("B"), importing("C")}, []int64{1, 2, 0}}, {[]impl.Node{importing("A", "B"), importing("B"), importing("C")}, []int64{1, 0, 2}}, {[]impl.Node{importing("D", "B", "C"), importing("C", "A"), importing("B", "A"), importing("A")}, []int64{3, 1, 2, 0}}, {[]impl.Node{importing("A", "B", "B", "B"), importing("B")}, []int64{1, 0}}, {[]impl.Node{importing("E"), importing("D", "C"), importing("C", "A", "B"), importing("B"), importing("A", "B")}, []int64{0, 3, 4, 2, 1}},
		{[]impl.Node{importing("A", "A")}, nil}, {[]impl.Node{importing("A", "B"), importing("B", "A")}, nil}, {[]impl.Node{importing("A", "B"), importing("B", "C"), importing("C", "A")}, nil}, {[]impl.Node{importing("A"), importing("B", "B")}, nil}, {[]impl.Node{importing("A", "B")}, nil}, {[]impl.Node{importing("A"), importing("B", "A", "C")}, nil}, {[]impl.Node{importing("A"), importing("A")}, nil}, {[]impl.Node{importing("A"), importing("B"), importing("A", "B")}, nil}, {[]impl.Node{importing("D", "A"), importing("A", "B"), importing("B", "C"), importing("C", "B")}, nil},
		{[]impl.Node{{}}, nil}, {[]impl.Node{importing("A"), {}}, nil}, {[]impl.Node{{}, importing("A")}, nil}, {[]impl.Node{importing("A"), tree(impl.DImport, "B"), importing("C")}, nil}, {[]impl.Node{importing("A"), tree(impl.NVar, "B")}, nil},
		// what else is wrong with a module is not asked
		{[]impl.Node{tree(impl.DModule, "")}, []int64{0}}, {[]impl.Node{tree(impl.DModule, ""), tree(impl.DModule, "")}, nil}, {[]impl.Node{tree(impl.DModule, "a b", tree(impl.DImport, "")), tree(impl.DModule, "")}, []int64{1, 0}}, {[]impl.Node{tree(impl.DModule, "A", tree(impl.DImport, "B", tree(impl.DNames, "?"))), tree(impl.DModule, "B", tree(99, "A", tree(impl.DImport, "A")))}, []int64{1, 0}}, {[]impl.Node{tree(impl.DModule, "A", tree(impl.NVar, "x"), tree(impl.DImport, "B"), tree(impl.DClause, "x")), importing("B")}, []int64{1, 0}},
	} {
		if got := checkModuleOrder(t, row.list); !slices.Equal(got, row.want) {
			t.Errorf("%v, not %v", got, row.want)
		}
	}
}

// Each order of several lists: all modules come behind what they import, and of those that could come next the first one.
func TestModuleOrderOfEachOrder(t *testing.T) {
	for _, list := range [][]impl.Node{
		{importing("A"), importing("B", "A"), importing("C", "B"), importing("D", "C"), importing("E", "D")}, {importing("A"), importing("B", "A"), importing("C", "A"), importing("D", "B", "C"), importing("E")}, {importing("A"), importing("B"), importing("C"), importing("D", "A"), importing("E", "A", "B")}, {importing("A"), importing("B"), importing("C", "D"), importing("D", "C"), importing("E", "A", "B")}, {importing("A"), importing("B", "A"), importing("C", "Z")}, {importing("A"), importing("B", "A"), importing("A")}, {importing("A"), importing("B", "A"), importing("C", "C"), importing("D")},
	} {
		good := len(impl.ModuleOrder(list)) > 0
		inEachOrder(list, func(other []impl.Node) {
			got := checkModuleOrder(t, other)
			if len(got) > 0 != good || good && len(got) != len(list) {
				t.Errorf("%v", got)
			}
			for i, at := range got {
				for _, d := range kidsOf(other[at], impl.DImport) {
					if !slices.ContainsFunc(got[:i], func(o int64) bool { return other[o].Name == d.Name }) {
						t.Errorf("%v: %s comes ahead of %s", got, other[at].Name, d.Name)
					}
				}
			}
		})
	}
}

func TestModuleOrderOfDrawnLists(t *testing.T) {
	r := rand.New(rand.NewPCG(7, 1))
	good := 0
	for round := range 6000 {
		var list []impl.Node
		for i := range r.IntN(9) {
			n := importing("M" + strconv.Itoa(i))
			for range r.IntN(3) {
				other := r.IntN(i + 1)
				if round%3 == 0 {
					other = r.IntN(10)
				}
				if other != i || round%7 == 0 {
					n.Kids = append(n.Kids, tree(impl.DImport, "M"+strconv.Itoa(other)))
				}
			}
			list = append(list, n)
		}
		r.Shuffle(len(list), func(i, j int) { list[i], list[j] = list[j], list[i] })
		if len(checkModuleOrder(t, list)) > 0 {
			good++
		}
	}
	if good < 2000 || good > 5500 {
		t.Errorf("%d lists have an order", good)
	}
}

// Where imports tell the whole order, the order of the list turns nothing; else what each module has is the same.
func TestOrdersOfLists(t *testing.T) {
	line := modulesOf(t, "module A where { infixr 2 + ; x + y = x ; data T = P deriving ( Eq ) ; class Eq a where { (==) :: a } } module B where { import A ; f = P + P + P ; instance Eq Int where { (==) = f } } module C where { import B ; import A ( T ) ; g = f P } module D where { import C ; h = g }")
	want := programText(checkProgram(t, line))
	if want[0] == '?' {
		t.Fatal(want)
	}
	inEachOrder(line, func(list []impl.Node) {
		if got := programText(checkProgram(t, list)); got != want {
			t.Errorf("%s\nis not\n%s", got, want)
		}
	})
	wide := modulesOf(t, "module A where { infixr 2 + ; x + y = x } module B where { import A ; f = 1 + 2 + 3 } module C where { import A ; f = 1 + 2 } module D where { import B ; import A ; import C ( ) ; h = f } module E where { data T = P }")
	inEachOrder(wide, func(list []impl.Node) {
		got := checkProgram(t, list)
		names := map[string]string{"A.+": "A.+ x y = x", "B.f": "B.f = ( A.+ 1 ( A.+ 2 3 ) )", "C.f": "C.f = ( A.+ 1 2 )", "D.h": "D.h = B.f", "E.T": "data E.T = E.P"}
		for _, d := range got.Decls {
			if declText(d) != names[d.Name] {
				t.Errorf("%s", declText(d))
			}
			delete(names, d.Name)
		}
		if len(names) > 0 {
			t.Errorf("%v are missing", names)
		}
	})
	for _, text := range []string{"module A where { x = y } module B where { import A ; f = 1 }", "module A where { x = 1 } module B where { import A ; f = zz } module C where { import B ; g = zz }", "module A where { import B } module B where { import A } module C where { }", "module A where { import B ( z ) } module B where { }"} {
		list := modulesOf(t, text)
		want := programText(checkProgram(t, list))
		inEachOrder(list, func(other []impl.Node) {
			if got := programText(checkProgram(t, other)); got != want {
				t.Errorf("%s: %s in another order", want, got)
			}
		})
	}
}
