package tests

import (
	"fmt"
	"slices"
	"strings"
	"testing"

	"loop.example/g00017/impl"
)

// A wrongDecl is a piece of a module with one fault; @ stands for what makes its names its own, and ^ for its module.
type wrongDecl struct {
	code       int
	text, name string
}

func wrongDecls() []wrongDecl {
	return []wrongDecl{
		{1, "data T@ a a = A@", "^T@"}, {1, "data T@ = A@ v@", "v@"}, {1, "data T@ = A@ ( T@ Int )", "^T@"}, {1, "data T@ a = A@ ( ( T@ a ) a )", ""},
		{2, "data D@ = D@ ; class D@ a => C@ a where { }", "^C@"}, {2, "class C@ b => C@ a where { }", "^C@"},
		{3, "class R@ a => R@ a where { }", "^R@"}, {3, "class S@ a => R@ a where { } ; class R@ a => S@ a where { }", "^R@"},
		{4, "class E@ a where { e@ :: Int }", "^e@"}, {4, "class E@ a where { e@ :: E@ }", "^e@"}, {4, "class E@ a where { e@ :: E@ a => a }", "^e@"}, {4, "class E@ a where { e@ :: E@ c => a }", "^e@"},
		{5, "class F@ a where { } ; instance F@ a where { }", "^F@"}, {5, "data F@ = F@ ; instance F@ Int where { }", "^F@"}, {5, "class F@ a where { } ; instance F@ a => F@ Int where { }", "^F@"},
		{6, "class G@ a where { } ; data H@ = H@ ; instance G@ H@ where { } ; instance G@ H@ where { }", "^H@"},
		{7, "class I@ a where { i@ :: a } ; instance I@ Int where { }", "^i@"}, {7, "class I@ a where { } ; z@ = 1 ; instance I@ Int where { z@ = 1 }", "^z@"},
		{8, "class J@ a where { } ; class J@ a => L@ a where { } ; instance L@ Int where { }", "^J@"}, {8, "class J@ a where { } ; class J@ a => L@ a where { } ; instance L@ [ a ] where { } ; instance J@ a => J@ [ a ] where { }", "^J@"},
	}
}

// in makes the names of a piece its own.
func (w wrongDecl) in(module, own string) wrongDecl {
	w.text = strings.ReplaceAll(w.text, "@", own)
	w.name = strings.NewReplacer("@", own, "^", module+".").Replace(w.name)
	return w
}

func (w wrongDecl) told() string { return glue(fmt.Sprint("?", w.code), w.name) }

func TestEachFaultAlone(t *testing.T) {
	for _, w := range wrongDecls() {
		one := w.in("M", "X")
		checkTold(t, [][2]string{{one.text, one.told()}, {"f = 1 ; data Q = Q ; " + one.text + " ; class W a where { w :: a } ; instance W Q where { w = Q }", one.told()}})
	}
}

// Two faults in one module: that of the lesser code, of one code the first one.
func TestPairsOfFaults(t *testing.T) {
	for _, a := range wrongDecls() {
		for _, b := range wrongDecls() {
			first, second := a.in("M", "X"), b.in("M", "Y")
			want := first
			if second.code < first.code {
				want = second
			}
			checkTold(t, [][2]string{{first.text + " ; " + second.text, want.told()}})
		}
	}
}

// In two modules: that of the lesser code, of one code that of the module which comes first, however they are given.
func TestPairsOfFaultsInModules(t *testing.T) {
	for _, a := range wrongDecls() {
		for _, b := range wrongDecls() {
			first, second := a.in("A", "X"), b.in("B", "Y")
			list := modulesOf(t, "module A where { "+first.text+" } module B where { "+second.text+" }")
			behind := modulesOf(t, "module A where { import B ; "+first.text+" } module B where { "+second.text+" }")
			for i, row := range [][]impl.Node{list, {list[1], list[0]}, behind, {behind[1], behind[0]}} {
				order := []wrongDecl{first, second}
				if i > 0 {
					order = []wrongDecl{second, first}
				}
				slices.SortStableFunc(order, func(x, y wrongDecl) int { return x.code - y.code })
				if got := resultText(checkTables(t, row)); got != order[0].told() {
					t.Errorf("%s and %s, %d: %s, not %s", first.text, second.text, i, got, order[0].told())
				}
			}
		}
	}
}

// All of one code come ahead of those of the next, wherever they stand.
func TestAllFaultsAtOnce(t *testing.T) {
	all := wrongDecls()
	for turn := range all {
		left := slices.Concat(all[turn:], all[:turn])
		for len(left) > 0 {
			var texts []string
			least := 0
			for i, w := range left {
				texts = append(texts, w.in("M", fmt.Sprint("N", i)).text)
				if w.code < left[least].code {
					least = i
				}
			}
			checkTold(t, [][2]string{{strings.Join(texts, " ; "), left[least].in("M", fmt.Sprint("N", least)).told()}})
			left = slices.Delete(left, least, least+1)
		}
	}
}

// Several codes in one declaration.
func TestFaultsOfOneDeclaration(t *testing.T) {
	checkTold(t, [][2]string{
		{"class ( K a , D a ) => K a where { k :: Int } ; data D = D", "?2 M.K"}, {"class K a => K a where { k :: Int }", "?3 M.K"}, {"class K a => K a where { k :: a } ; instance K b where { }", "?3 M.K"}, {"class K a where { k :: Int } ; instance K a where { l = 1 } ; l = 1", "?4 M.k"},
		{"class K a where { k :: a } ; instance K a where { l = 1 } ; l = 1", "?5 M.K"}, {"class K a where { k :: a } ; instance K Int where { k = 1 } ; instance K Int where { l = 1 } ; l = 1", "?6 Int"}, {"class J a where { } ; class J a => K a where { k :: a } ; instance K Int where { }", "?7 M.k"}, {"class J a where { } ; class J a => K a where { k :: a } ; instance K Int where { k = 1 } ; instance K Int where { k = 1 }", "?6 Int"}, {"class J a where { } ; class J a => K a where { k :: a } ; instance K Int where { k = 1 }", "?8 M.J"},
	})
}
