package tests

import (
	"math/rand/v2"
	"slices"
	"strings"
	"sync"
	"testing"

	"loop.example/g00017/impl"
)

// severalPrograms has lists with each code, and with none.
func severalPrograms(t *testing.T) [][]impl.Node {
	t.Helper()
	m := treeMaker{rand.New(rand.NewPCG(7, 4))}
	helpers := modulesOf(t, "module H where { twice = 1 } module T where { twice = 2 }")
	lists := [][]impl.Node{nil, {}, helpers, {impl.Node{}}, severalTrees(), append(slices.Clone(helpers), helpers[0])}
	for _, w := range wrongModules() {
		lists = append(lists, append(modulesOf(t, strings.ReplaceAll(w.text, "@", "X")), helpers...))
	}
	for _, text := range append(severalModules(), someModules()...) {
		lists = append(lists, []impl.Node{parsed(t, text)})
	}
	for range 60 {
		list := m.program()
		for round := range 120 {
			got := impl.Resolve(list)
			if got.Code < 2 || round%10 == 0 {
				lists = append(lists, slices.Clone(list))
			}
			if got.Code < 2 {
				break
			}
			m.mend(list, got, round)
		}
	}
	const classes = "module L where { class Eq a where { (==) :: a } ; class Show a where { x , show :: a } ; class Ord a where { (<=) :: a } }"
	return append(lists, modulesOf(t, classes+" module A where { import L ; infixr 3 + ; x :: T Int -> Int ; x = ( + 1 ) ( 2 + ) ( 1 + 2 + 3 ) where { f y = [ y z s' | z <- y ] ; s' , f :: a ; s' = - 1 } ; (+) = x ; data T a = P a ( T a ) | Q deriving ( Eq , Ord , Show ) ; instance Eq a => Eq [ a ] where { ( a : b ) == c = ( case c of { d @ [ e ] | True -> e ; _ -> ( let { q = \"s\" } in q ) } ) } }"))
}

// whole puts what is answered under one node, so that it can be looked through.
func whole(r impl.ProgramResult) impl.Node { return tree(impl.NList, "", r.Decls...) }

func cloneTrees(list []impl.Node) []impl.Node {
	var own []impl.Node
	for _, n := range list {
		own = append(own, cloneTree(n))
	}
	return own
}

func TestResolvingChangesNothing(t *testing.T) {
	behind := importing("Behind", "Nothing")
	for _, list := range severalPrograms(t) {
		own := make([]impl.Node, 0, len(list)+1)
		for _, n := range list {
			own = append(own, roomyTree(n))
		}
		own = append(own, behind)
		given := own[:len(list)]
		got, order := impl.Resolve(given), impl.ModuleOrder(given)
		if !slices.EqualFunc(given, list, sameSlowly) || slices.ContainsFunc(given, func(n impl.Node) bool { return !roomKept(n) }) || !sameSlowly(own[len(list)], importing("Behind", "Nothing")) {
			t.Errorf("%s is changed", kinded(tree(0, "", list...)))
		}
		if !sameProgram(got, impl.Resolve(list)) || !slices.Equal(order, impl.ModuleOrder(list)) {
			t.Errorf("%s hangs on what stands behind a list", kinded(tree(0, "", list...)))
		}
	}
}

func TestProgramsAreNewMemory(t *testing.T) {
	codes := map[int64]int{}
	for _, list := range severalPrograms(t) {
		own := cloneTrees(list)
		got, order := impl.Resolve(own), impl.ModuleOrder(own)
		codes[got.Code]++
		want := impl.ProgramResult{Code: got.Code, Module: strings.Clone(got.Module), Name: strings.Clone(got.Name), Decls: cloneTrees(got.Decls)}
		wantOrder := slices.Clone(order)
		if !listsApart(whole(got)) || cap(got.Decls) > 0 && !listsApart(impl.Node{Kids: got.Decls}) {
			t.Errorf("%s: two lists share memory", kinded(tree(0, "", list...)))
		}
		given := map[uintptr]bool{}
		for _, text := range textsIn(tree(0, "", own...), nil) {
			for i := range len(text) {
				given[addressOf(text[i:])] = true
			}
		}
		for _, text := range append(textsIn(whole(got), nil), got.Module, got.Name) {
			if text != "" && given[addressOf(text)] {
				t.Errorf("%q lies in an argument", text)
			}
		}
		spoilLists(impl.Node{Kids: got.Decls})
		clear(order[:cap(order)])
		if !slices.EqualFunc(own, list, sameSlowly) {
			t.Errorf("%s shares memory with what it is resolved to", kinded(tree(0, "", list...)))
		}
		if again := impl.Resolve(own); !sameProgram(again, want) || !slices.Equal(impl.ModuleOrder(own), wantOrder) {
			t.Errorf("%s is resolved another way behind a change of its declarations", kinded(tree(0, "", list...)))
		}
	}
	for code := range int64(14) {
		if codes[code] == 0 {
			t.Errorf("codes %v", codes)
		}
	}
}

func TestDerivedIsNewMemory(t *testing.T) {
	m := treeMaker{rand.New(rand.NewPCG(7, 5))}
	for _, class := range []string{"Eq", "Ord", "Show", "L.Eq", "L.Ord", "L.Show", "K"} {
		for range 40 {
			d := tree(impl.DData, "A.T", m.names())
			for range 1 + m.IntN(4) {
				d.Kids = append(d.Kids, tree(impl.DConstr, m.one("C", "A.C", "x"), m.some(0, 3, m.typ)...))
			}
			d.Kids = append(d.Kids, m.names())
			own, ownClass, method := roomyTree(cloneTree(d)), strings.Clone(class), strings.Clone("L.method")
			got := impl.Derive(own, ownClass, method)
			want := cloneTree(got)
			if !listsApart(got) {
				t.Errorf("%s of %s: two lists share memory", class, kinded(d))
			}
			for _, text := range textsIn(got, nil) {
				if slices.ContainsFunc(append(textsIn(own, nil), ownClass, method), func(given string) bool { return within(text, given) }) {
					t.Errorf("%q lies in an argument", text)
				}
			}
			spoilLists(got)
			if !sameSlowly(own, d) || !roomKept(own) || ownClass != class || method != "L.method" {
				t.Errorf("%s of %s changes it", class, kinded(d))
			}
			if again := impl.Derive(own, class, "L.method"); !sameSlowly(again, want) {
				t.Errorf("%s of %s is another one behind a change", class, kinded(d))
			}
		}
	}
}

// With a code there are no declarations; a module is told but with 1 and 4, a name with 3 and from 5 on.
func TestProgramCodesStandAlone(t *testing.T) {
	for _, list := range severalPrograms(t) {
		got := impl.Resolve(list)
		named, inModule := got.Code == 3 || got.Code > 4, got.Code > 1 && got.Code != 4
		if got.Code < 0 || got.Code > 13 || got.Code != 0 && len(got.Decls) > 0 || (got.Module != "") != inModule || (got.Name != "") != named {
			t.Errorf("%s", programText(got))
		}
		if (len(impl.ModuleOrder(list)) == len(list)) != (got.Code == 0 || got.Code > 4) && got.Code != 1 {
			t.Errorf("%s has an order", programText(got))
		}
	}
}

// Calls at the same time and in any order answer alike.
func TestProgramsHangOnArgumentsAlone(t *testing.T) {
	lists := severalPrograms(t)
	var first []impl.ProgramResult
	for _, list := range lists {
		first = append(first, impl.Resolve(list))
	}
	d := dataOf("T", []string{"a"}, 0, 3, 1)
	derived := impl.Derive(d, "Ord", "m")
	var all sync.WaitGroup
	for worker := range 8 {
		all.Go(func() {
			for i := range lists {
				at := (i*7 + worker) % len(lists)
				if !sameProgram(impl.Resolve(lists[at]), first[at]) || !sameSlowly(impl.Derive(d, "Ord", "m"), derived) || len(impl.BuiltinNames()) != 14 {
					t.Errorf("%s is resolved another way", kinded(tree(0, "", lists[at]...)))
				}
			}
		})
	}
	all.Wait()
}

// Trees of any kind in lists of any length.
func TestStrangeLists(t *testing.T) {
	r := rand.New(rand.NewPCG(7, 6))
	trees := append(severalTrees(), longTrees()...)
	for _, n := range trees {
		want := int64(1)
		if n.Kind == impl.DModule && impl.NodeFault(n) == 0 {
			want = impl.Resolve([]impl.Node{n}).Code
		}
		for _, list := range [][]impl.Node{{n}, {importing("Z"), n}, {n, importing("Z")}} {
			if got := checkProgram(t, list); got.Code != want {
				t.Errorf("%.300s: code %d, not %d", kinded(n), got.Code, want)
			}
			if order := checkModuleOrder(t, list); (len(order) == len(list)) != (n.Kind == impl.DModule && len(kidsOf(n, impl.DImport)) == 0) {
				t.Errorf("%.300s has the order %v", kinded(n), order)
			}
		}
	}
	for range 3000 {
		n := randomTree(r, 4)
		if r.IntN(2) == 0 {
			n.Kind = impl.DModule
		}
		list := []impl.Node{n, randomTree(r, 3), importing("x", "C")}[r.IntN(2):][:1+r.IntN(2)]
		checkProgram(t, list)
		checkModuleOrder(t, list)
		if d := tree(impl.DData, n.Name, n.Kids...); impl.NodeFault(d) == 0 {
			checkDerived(t, d, "Eq", "m")
		} else {
			impl.Derive(d, "Eq", "m")
		}
	}
	around := importing("A", "B") // a module that stands in itself
	around.Kids = append(around.Kids, around)
	around.Kids[2].Kids = around.Kids
	if got := impl.Resolve([]impl.Node{around, importing("B")}); got.Code != 1 {
		t.Errorf("code %d", got.Code)
	}
	if got := impl.ModuleOrder([]impl.Node{around, importing("B")}); !slices.Equal(got, []int64{1, 0}) {
		t.Errorf("%v", got)
	}
}
