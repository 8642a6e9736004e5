package tests

import (
	"fmt"
	"slices"
	"strings"
	"testing"

	"loop.example/g00017/impl"
)

// A chain of classes, of which each has the one ahead as its superclass.
func classChain(last int) string {
	text := "class C0 a where { m0 :: a -> a } ; "
	for i := 1; i <= last; i++ {
		text += fmt.Sprintf("class C%d a => C%d a where { m%d :: a -> a } ; ", i-1, i, i)
	}
	return text
}

func TestLongWaysToSuperclasses(t *testing.T) {
	const last = 1000
	r := impl.InferProgram([]impl.Node{parsed(t, "module M where {"+classChain(last)+fmt.Sprintf("f :: C%d a => a -> a ; f x = m0 x ; g x = m0 (m%d x) }", last, last))})
	if got := toldTypes(r); got != "f :: (C1000 a) => a -> a; g :: (C1000 a) => a -> a" {
		t.Fatalf("is %s", got)
	}
	dict := r.Binds[len(r.Binds)-2].Kids[2].Kids[0].Kids[0].Kids[1]
	for i := range last {
		if name := fmt.Sprintf("super:M.C%d:M.C%d", i+1, i); dict.Kind != impl.NApp || len(dict.Kids) != 2 || dict.Kids[0].Name != name {
			t.Fatalf("step %d is %s", i, dict.Kids[0].Name)
		}
		dict = dict.Kids[1]
	}
	if dict.Kind != impl.NVar || dict.Name != "#1.1" {
		t.Errorf("at last there is %s", dict.Name)
	}
	// All classes at one variable: the last one meets all.
	var uses []string
	for i := range last + 1 {
		uses = append(uses, fmt.Sprintf("m%d x", i))
	}
	if got := toldOf(t, classChain(last)+"f x = [ "+strings.Join(uses, " , ")+" ]", "f"); got != "(C1000 a) => a -> [a]" {
		t.Errorf("is %s", got)
	}
}

// Classes without superclasses become as many preds.
func TestManyPreds(t *testing.T) {
	const count = 900
	text, want := "", []string{}
	for i := range count {
		text += fmt.Sprintf("class C%d a where { m%d :: a -> a } ; ", i, i)
		want = append(want, fmt.Sprintf("C%d a", i))
	}
	var uses []string
	for i := range count {
		uses = append(uses, fmt.Sprintf("m%d x", i))
	}
	if got := toldOf(t, text+"f x = [ "+strings.Join(uses, " , ")+" ]", "f"); got != "("+strings.Join(want, ", ")+") => a -> [a]" {
		t.Errorf("is %.200s", got)
	}
}

func TestManyThings(t *testing.T) {
	const count = 2500
	var round, chain []string
	for i := range count {
		round = append(round, fmt.Sprintf("f%d x = f%d x", i, (i+1)%count))
		chain = append(chain, fmt.Sprintf("f%d = f%d", i, i+1))
	}
	if got := toldOf(t, strings.Join(round, " ; "), "f7"); got != "a -> b" {
		t.Errorf("is %s", got)
	}
	if got := toldOf(t, strings.Join(append(chain, fmt.Sprintf("f%d x = x", count)), " ; "), "f0"); got != "a -> a" {
		t.Errorf("is %s", got)
	}
	if got := toldOf(t, strings.Join(append(chain, fmt.Sprintf("f%d x = x x", count)), " ; "), "f0"); got != fmt.Sprintf("?M.f%d", count) {
		t.Errorf("is %s", got)
	}
	if got := toldOf(t, "class C a where { m :: a -> Bool } ; "+strings.Join(round, " ; ")+" ; g x = if m x then f0 x else f0 x", "g"); got != "(C a) => a -> b" {
		t.Errorf("is %s", got)
	}
}

// Names of many generators hold one within the other. Each is made a list of the next one: from the first one on none is deep as it is drawn, from the last one on all are, and behind all of them it is one and the same.
func TestManyGenerators(t *testing.T) {
	const count = 1500
	var drawn, grown []string
	for i := range count {
		drawn = append(drawn, fmt.Sprintf("x%d<-[]", i))
	}
	for i := range count - 1 {
		grown = append(grown, fmt.Sprintf("_<-[x%d,[x%d]]", i, i+1))
	}
	chain := func(links []string) string {
		return "f = [ x1499 | " + strings.Join(slices.Concat(drawn, links), " , ") + " ]"
	}
	few, many := slices.Clone(grown[:198]), slices.Clone(grown[:199])
	checkToldOf(t, "f", [][2]string{{chain(few), "[a]"}, {chain(many), "?M.f"}, {chain(grown), "?M.f"}})
	for _, links := range [][]string{few, many, grown} {
		slices.Reverse(links)
	}
	checkToldOf(t, "f", [][2]string{{chain(few), "[a]"}, {chain(many), "?M.f"}, {chain(grown), "?M.f"}, {chain(grown[:198]), "[a]"}, {chain(grown[:199]), "?M.f"}})
}

func TestManyUses(t *testing.T) {
	doubled := "t0 x = ( x , x ) ; "
	for i := 1; i <= 8; i++ {
		doubled += fmt.Sprintf("t%d x = ( t%d x , t%d x ) ; ", i, i-1, i-1)
	}
	for _, text := range []string{pairs(12) + "f = case [ " + strings.Repeat("t12 , ", 8000) + "t12 ] of { _ -> 1 }", doubled + "f = case [ " + strings.Repeat("t8 , ", 2000) + "t8 ] of { _ -> 1 }"} {
		if got := toldOf(t, text, "f"); got != "Int" {
			t.Errorf("is %s", got)
		}
	}
	deep := "x"
	for i := range 60 {
		deep = fmt.Sprintf("let { g%d y = y == x } in ( if g%d x then %s else x )", i, i, deep)
	}
	if got := toldOf(t, eqAhead+"f x = "+deep, "f"); got != "(Eq a) => a -> a" {
		t.Errorf("is %s", got)
	}
	if got := toldOf(t, eqAhead+"data D = D"+strings.Repeat(" Int", 4000)+" deriving ( Eq ) ; f = \\ x -> if x == x then x else x", "f"); got != "?M.f" {
		t.Errorf("is %s", got)
	}
	if got := toldOf(t, eqAhead+"data D = D"+strings.Repeat(" Int", 4000)+" deriving ( Eq ) ; f x = case x of { D"+strings.Repeat(" _", 4000)+" -> x == x }", "f"); got != "D -> Bool" {
		t.Errorf("is %s", got)
	}
}
