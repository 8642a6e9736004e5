package tests

import (
	"fmt"
	"slices"
	"strings"
	"testing"

	"loop.example/g00017/impl"
)

// A wrongModule is a module with a fault; @ stands for its name, and twice is what H and T export.
type wrongModule struct {
	code       int64
	text, name string
}

func wrongModules() []wrongModule {
	const head = "module @ ( ok ) where { import H ; import T ( twice ) ; ok = 1 ; "
	return []wrongModule{
		{3, "module @ where { import Nope }", "Nope"}, {4, "module @ where { import @ }", ""}, {5, head + "dd = 1 ; d = 2 ; dd = 3 }", "dd"}, {6, "module @ ( ee ) where { }", "ee"}, {7, "module @ where { import H ( ff ) }", "ff"}, {8, head + "x = 1 ? 2 ? 3 ; infix 3 ? }", "?"}, {9, head + "x = gg }", "gg"}, {10, head + "x = twice }", "twice"}, {11, head + "f hh x hh = 1 }", "hh"}, {12, head + "f = 1 where { ii :: Int } }", "ii"}, {12, head + "jj :: Int }", "jj"}, {12, head + "f = ( let { kk = 1 ; kk x = 2 } in 3 ) }", "kk"}, {13, head + "data D = D deriving ( Show ) ; class Show a where { } }", "Show"},
	}
}

// Two modules with a fault each: of 1 to 4 the least code is told, else that of the module that comes first.
func TestFaultsOfTwoModules(t *testing.T) {
	helpers := modulesOf(t, "module H where { twice = 1 } module T where { twice = 2 }")
	for _, first := range wrongModules() {
		for _, second := range wrongModules() {
			list := append(slices.Clone(helpers), modulesOf(t, strings.ReplaceAll(first.text, "@", "X")+strings.ReplaceAll(second.text, "@", "Y"))...)
			want := fmt.Sprintf("?%d X %s", first.code, first.name)
			if second.code < 5 && second.code < first.code {
				want = fmt.Sprintf("?%d Y %s", second.code, second.name)
			}
			if min(first.code, second.code) == 4 {
				want = "?4"
			}
			if got := programText(checkProgram(t, list)); got != strings.TrimSpace(want) {
				t.Errorf("%s and %s: %s, not %s", first.text, second.text, got, want)
			}
			again := append(slices.Clone(list), importing("Y"))
			if got := programText(checkProgram(t, again)); got != "?2 Y" {
				t.Errorf("%s and %s, and Y again: %s", first.text, second.text, got)
			}
			again = append(again, tree(impl.DModule, "V"))
			if got := programText(checkProgram(t, again)); got != "?1" {
				t.Errorf("%s and %s, and no module: %s", first.text, second.text, got)
			}
		}
	}
}

// Where one module imports the other, that one's fault is told, however they are given.
func TestFaultsBehindImports(t *testing.T) {
	helpers := modulesOf(t, "module H where { twice = 1 } module T where { twice = 2 }")
	for _, first := range wrongModules()[2:] {
		for _, second := range wrongModules()[2:] {
			list := append(modulesOf(t, strings.ReplaceAll(first.text, "@", "X")+strings.ReplaceAll(second.text, "@", "Y")), helpers...)
			list[0].Kids = slices.Insert(slices.Clone(list[0].Kids), 1, tree(impl.DImport, "Y", tree(impl.DNames, "")))
			want := fmt.Sprintf("?%d Y %s", second.code, second.name)
			inEachOrder(list, func(other []impl.Node) {
				if got := programText(checkProgram(t, other)); got != want {
					t.Errorf("%s and %s: %s, not %s", first.text, second.text, got, want)
				}
			})
		}
	}
}

// Two faults in one module: 5 to 8 by their codes, a signature of the top that says of nothing ahead of all in it, then by their places.
func TestFaultsOfOneModule(t *testing.T) {
	helpers := modulesOf(t, "module H where { twice = 1 } module T where { twice = 2 }")
	var wrong []wrongModule
	for _, w := range wrongModules()[2:] {
		if w.code != 6 && w.code != 7 {
			w.text = strings.TrimSuffix(w.text[strings.Index(w.text, "ok = 1 ; ")+9:], " }")
			wrong = append(wrong, w)
		}
	}
	rank := func(w wrongModule) int64 {
		switch {
		case w.code < 9:
			return w.code
		case w.name == "jj":
			return 9
		}
		return 10
	}
	resolved := func(exports, imports string, decls ...string) string {
		t.Helper()
		text := "module X ( ok" + exports + " ) where { import H" + imports + " ; import T ( twice ) ; ok = 1 ; " + strings.Join(decls, " ; ") + " }"
		return programText(checkProgram(t, append(modulesOf(t, text), helpers...)))
	}
	for i, first := range wrong {
		for j, second := range wrong {
			want := first
			if rank(second) < rank(first) {
				want = second
			}
			apart := strings.NewReplacer("x = ", "y = ", "f ", "g ").Replace(second.text)
			if got := resolved("", "", first.text, apart); i != j && got != fmt.Sprintf("?%d X %s", want.code, want.name) {
				t.Errorf("%s, then %s: %s", first.text, apart, got)
			}
		}
		if got := resolved(" , ee", "", first.text); got != "?6 X ee" && first.code != 5 || first.code == 5 && got != "?5 X dd" {
			t.Errorf("%s with a wrong export: %s", first.text, got)
		}
		if got := resolved("", " ( ff )", first.text); got != "?7 X ff" && first.code != 5 || first.code == 5 && got != "?5 X dd" {
			t.Errorf("%s with a wrong import: %s", first.text, got)
		}
	}
	if got := resolved(" , ee", " ( ff )"); got != "?6 X ee" {
		t.Errorf("a wrong export and a wrong import: %s", got)
	}
}
