package tests

import (
	"slices"
	"strings"
	"testing"

	"loop.example/g00017/impl"
)

func TestWhatTablesTellIsCodeOne(t *testing.T) {
	for _, row := range [][2]string{
		{"module M where { f = x }", "x"},
		{"module M where { f = 1 1 ; g = x }", "x"},
		{"module M where { f = 1 ; g = 2 ; f = 3 }", "f"},
		{"module M where { f x x = 1 }", "x"},
		{"module M where { f :: Int ; f = 'a' ; f :: Int }", "f"},
		{"module M where { data D a a = A ; f = 1 1 }", "M.D"},
		{"module M where { data D = A E }", "E"},
		{"module M where { f :: E ; f = 1 }", "E"},
		{"module M where { class C b => C a where { } ; f :: Int Int ; f = 1 }", "M.C"},
		{"module M where { class C a where { m :: Int } ; f = 1 1 }", "M.m"},
		{"module M where { class C a where { m :: a } ; instance C Int where { } }", "M.m"},
		{"module M where { class C a where { } ; instance C Int where { } ; instance C Int where { } }", "Int"},
		{"module M where { class C a where { } ; class C a => D a where { } ; instance D Int where { } }", "M.C"},
		{"module M where { import A } module A where { import M }", ""},
		{"module M where { import A ; f = 1 }", "A"},
	} {
		r := checkInferred(t, modulesOf(t, row[0]))
		if r.Code != 1 || r.Name != row[1] || r.Types != nil || r.Binds != nil {
			t.Errorf("%s is %s", row[0], inferredText(r))
		}
	}
	for _, list := range [][]impl.Node{{{}}, {tree(impl.NVar, "x")}, {tree(impl.DModule, "M")}, append(modulesOf(t, "module M where { f = 1 }"), impl.Node{})} {
		if r := checkInferred(t, list); r.Code != 1 || r.Name != "" {
			t.Errorf("what is no module is %s", inferredText(r))
		}
	}
	for _, list := range [][]impl.Node{nil, {}, modulesOf(t, "module M where { }"), modulesOf(t, "module M where { } module N where { import M }")} {
		if r := checkInferred(t, list); inferredText(r) != inferredText(impl.InferResult{}) {
			t.Errorf("modules of nothing are %s", inferredText(r))
		}
	}
}

const classAhead = "class C a where { m :: a } ; class D a where { n :: a -> a } ; "

// A tree that comes back to itself has no end, but the call has one.
func TestTreesWithoutAnEndAreCodeOne(t *testing.T) {
	round := []impl.Node{tree(impl.DModule, "M"), tree(impl.DNames, "all")}
	round[0].Kids = round
	inside := parsed(t, "module M where { f x = x }")
	right := inside.Kids[1].Kids[1:]
	right[0].Kids = right
	for _, list := range [][]impl.Node{round, {inside}, {inside, inside}} {
		if r := impl.InferProgram(list); inferredText(r) != inferredText(impl.InferResult{Code: 1}) {
			t.Errorf("is %s", toldTypes(r))
		}
	}
}

func TestTheFirstThatDoesNotTypeIsNamed(t *testing.T) {
	checkTypes(t, classAhead, [][2]string{
		{"f = 1 ; g = 1 1 ; h = 'a' 1", "?M.g"},
		{"h = 'a' 1 ; g = 1 1", "?M.h"},
		{"f = g ; g = 1 1", "?M.g"},
		{"f = 1 1 ; g = f ; h = 'a' 1", "?M.f"},
		{"f = g 'a' ; g = primAdd 1 ; h = 1 1", "?M.f"},
		{"h = f ; g = 1 1 ; f = 'a' 1", "?M.g"},
		{"h = f ; f = 'a' 1 ; g = 1 1", "?M.f"},
		{"a x = b x ; b x = a (1 1) ; c = 1 1", "?M.a"},
		{"c = 1 ; b x = a 1 ; a x = b (1 1)", "?M.b"},
		{"f :: Int ; f = 'a' ; g = 1 1", "?M.g"},
		{"f :: Int ; f = 'a' ; g = f", "?M.f"},
		{"f :: Int ; f = 'a' ; g :: Int ; g = 'b'", "?M.f"},
		{"f , g :: Int ; g = 'a' ; f = 'b'", "?M.g"},
		{"instance C Int where { m = 'a' } ; f :: Int ; f = 'a'", "?M.f"},
		{"instance C Int where { m = 'a' } ; f = 1 1", "?M.f"},
		{"instance D Int where { n = 'a' } ; instance C Int where { m = 'a' } ; f = 1", "?M.D"},
		{"instance D Int where { n x = x } ; instance C Int where { m = 'a' }", "?M.C"},
		{"instance C Char where { m = 'a' } ; instance C Int where { m = 'a' }", "?M.C"},
		{"instance C Char where { m = f } ; f :: Int ; f = 1", "?M.C"},
		{"instance C Char where { m = x where { x = 1 1 } }", "?M.C"},
	})
}

func TestSignaturesAreLookedAtFirst(t *testing.T) {
	checkTypes(t, classAhead+"data E a = E ; ", [][2]string{
		{"f :: Int Int ; f = 1", "?M.f"},
		{"f :: E ; f = E", "?M.f"},
		{"f :: E Int Int ; f = E", "?M.f"},
		{"f :: a Int ; f = E", "?M.f"},
		{"f :: (E a) Int ; f = E", "?M.f"},
		{"f :: ( Int , Int , Int , Int , Int , Int , Int , Int ) ; f = 1", "?M.f"},
		{"f :: C b => a -> a ; f x = x", "?M.f"},
		{"f :: E a => a -> a ; f x = x", "?M.f"},
		{"f :: [ E ] -> Int ; f x = 1 ; g = 1 1", "?M.f"},
		{"g = 1 1 ; f :: E ; f = E", "?M.f"},
		{"g = 1 1 ; f , h :: E ; h = E ; f = E", "?M.h"},
		{"g :: E ; f :: Int Int ; f = 1 ; g = 2", "?M.f"},
		{"g = 1 1 ; f = let { x :: E ; x = 1 } in x", "?M.f"},
		{"g = 1 1 ; f = h where { h = \\ y -> case y of { z -> x where { x :: E ; x = 1 } } }", "?M.f"},
		{"f = let { x :: E ; x = 1 } in x ; g :: E ; g = E", "?M.f"},
		{"h = f ; f = let { x :: E ; x = h } in x ; g :: E ; g = E", "?M.h"},
		{"h = f ; f = let { x :: E ; x = 1 } in x ; g :: E ; g = E", "?M.f"},
		{"g :: E ; g = E ; h :: Int ; h = let { x :: E ; x = 1 } in x", "?M.g"},
		{"h :: Int ; h = let { x :: E ; x = 1 } in x ; g :: E ; g = E", "?M.h"},
		{"f = 1 1 ; instance C Int where { m = x where { x :: E ; x = 1 } }", "?M.C"},
		{"g :: E ; g = E ; instance C Int where { m = x where { x :: E ; x = 1 } }", "?M.g"},
		{"f = 1 1 ; g = let { x :: C b => a ; x = 1 } in x", "?M.g"},
	})
}

// signatureOfNothing is a signature that names nothing; no text has one.
func signatureOfNothing() impl.Node {
	return tree(impl.DSig, "", tree(impl.DNames, ""), tree(impl.DContext, ""), tree(impl.TApp, "", tree(impl.TVar, "a"), tree(impl.TVar, "b")))
}

func TestTreesThatNoTextHas(t *testing.T) {
	module := func(decls ...impl.Node) []impl.Node {
		return []impl.Node{tree(impl.DModule, "M", append([]impl.Node{tree(impl.DNames, "all")}, decls...)...)}
	}
	one := tree(impl.NRhs, "", tree(impl.NNum, "1"))
	r := checkInferred(t, module(signatureOfNothing(), tree(impl.DClause, "f", tree(impl.NRhs, "", tree(impl.NNum, "1"), signatureOfNothing()))))
	if toldTypes(r) != "f :: Int" || len(r.Binds) != 1 || !sameSlowly(r.Binds[0], tree(impl.DClause, "M.f", one)) {
		t.Errorf("signatures of nothing: %s", inferredText(r))
	}
	for _, count := range []int{0, 1, 2, 3} {
		p := tree(impl.PCon, ":", slices.Repeat([]impl.Node{tree(impl.PWild, "")}, count)...)
		want := map[bool]string{true: "f :: [a] -> Int", false: "?M.f"}[count == 2]
		if r := checkInferred(t, module(tree(impl.DClause, "f", p, one))); toldTypes(r) != want {
			t.Errorf("%d patterns: %s", count, inferredText(r))
		}
	}
}

func TestSeveralModulesAreOneProgram(t *testing.T) {
	a := "module A where { class Eq a where { (==) :: a -> a -> Bool } ; instance Eq Int where { (==) = primEq } ; f x y = x == y ; data T = T deriving ( Eq ) }"
	b := "module B where { import A ; g x = f x ; h = f T ; instance Eq a => Eq [a] where { x == y = f x y } }"
	c := "module C where { import B ; import A ( Eq , T ) ; f :: Eq a => a -> Bool ; f x = g [ x ] [ x ] ; main = h T }"
	want := "A.f :: (Eq a) => a -> a -> Bool; B.g :: (Eq a) => a -> a -> Bool; B.h :: T -> Bool; C.f :: (Eq a) => a -> Bool; C.main :: Bool"
	inEachOrder(modulesOf(t, a+b+c), func(list []impl.Node) {
		r := checkInferred(t, list)
		if toldTypes(r) != want {
			t.Errorf("is %s", toldTypes(r))
		}
		names := strings.Join(textsOf(r.Binds, func(n impl.Node) string { return n.Name }), " ")
		if names != "A.== inst:A.Eq:Int inst:A.Eq:A.T inst:A.Eq:[] A.f B.g B.h C.f C.main" {
			t.Errorf("binds %s", names)
		}
	})
	wrong := modulesOf(t, "module A where { f = 1 } module B where { import A ; g = f 1 } module C where { import A ; h = f 2 }")
	if r := checkInferred(t, wrong); toldTypes(r) != "?B.g" {
		t.Errorf("is %s", toldTypes(r))
	}
	slices.Reverse(wrong)
	if r := checkInferred(t, wrong); toldTypes(r) != "?C.h" {
		t.Errorf("is %s", toldTypes(r))
	}
}

func TestKindsOfMain(t *testing.T) {
	rows := map[string]int64{
		"module Main where { main = \"\" }":                                                                    1,
		"module Main where { main = [ 'a' ] }":                                                                 1,
		"module Main where { main = [ ] }":                                                                     0,
		"module Main where { main :: [ Char ] ; main = [ ] }":                                                  1,
		"module Main where { main x = primAppend x \"\" }":                                                     2,
		"module Main where { main :: [ Char ] -> [ Char ] ; main x = x }":                                      2,
		"module Main where { main x = x }":                                                                     0,
		"module Main where { main x = \"\" }":                                                                  0,
		"module Main where { main = 'a' }":                                                                     0,
		"module Main where { main x = primOrd x }":                                                             0,
		"module Main where { main x y = primAppend x (primAppend y \"\") }":                                    0,
		"module Main where { main1 = \"\" ; mai = \"\" }":                                                      0,
		"module Mai where { main = \"\" }":                                                                     0,
		"module Main where { f = let { main = \"\" } in main }":                                                0,
		"module Main where { main = 1 1 }":                                                                     0,
		"module A where { main x = primShow x } module Main where { main = \"\" }":                             1,
		"module Main where { main = main }":                                                                    0,
		"module Main where { class C a where { main :: a -> [ Char ] } }":                                      0,
		"module Main where { class C a where { m :: a -> a } ; main :: C a => a -> [ Char ] ; main x = \"\" }": 0,
	}
	for text, want := range rows {
		r := checkInferred(t, modulesOf(t, text))
		if got := impl.MainKind(r); got != want {
			t.Errorf("%s is of the kind %d", text, got)
		}
	}
}

func TestKindsOfMainInAnswersThatNoProgramGives(t *testing.T) {
	text := listOf(typeCon("Char"))
	reader := typeCon("->", text, text)
	main := func(types ...impl.Type) impl.InferResult {
		r := impl.InferResult{}
		for _, one := range types {
			r.Types = append(r.Types, impl.Typed{Name: "Main.main", Scheme: impl.Scheme{Type: one}})
		}
		return r
	}
	round := []impl.Type{{Kind: impl.TyCon, Name: "[]"}}
	round[0].Args = round
	with := func(r impl.InferResult, change func(*impl.InferResult)) impl.InferResult {
		change(&r)
		return r
	}
	for i, c := range []struct {
		r    impl.InferResult
		want int64
	}{
		{impl.InferResult{}, 0},
		{main(text), 1},
		{main(reader), 2},
		{main(reader, text), 1},
		{main(text, reader), 1},
		{main(typeCon("Int"), reader), 2},
		{with(main(text), func(r *impl.InferResult) { r.Code = 2 }), 1},
		{with(main(text), func(r *impl.InferResult) { r.Types[0].Name = "main" }), 0},
		{with(main(text), func(r *impl.InferResult) { r.Types[0].Scheme.Count = 7 }), 1},
		{with(main(text), func(r *impl.InferResult) { r.Types[0].Scheme.Preds = []impl.Pred{{Class: "C", Id: 0}} }), 0},
		{with(main(text), func(r *impl.InferResult) { r.Types[0].Scheme.Preds = []impl.Pred{} }), 1},
		{with(main(reader), func(r *impl.InferResult) { r.Types[0].Scheme.Preds = []impl.Pred{{}} }), 0},
		{with(main(reader, text), func(r *impl.InferResult) { r.Types[1].Scheme.Preds = []impl.Pred{{}} }), 2},
		{main(impl.Type{Kind: impl.TyCon, Id: 1, Name: "[]", Args: text.Args}), 0},
		{main(impl.Type{Kind: impl.TyVar, Name: "[]", Args: text.Args}), 0},
		{main(typeCon("[]")), 0},
		{main(typeCon("[]", typeCon("Char"), typeCon("Char"))), 0},
		{main(listOf(typeCon("Main.Char"))), 0},
		{main(listOf(typeCon("Char", text))), 0},
		{main(listOf(typePlace(0))), 0},
		{main(typeCon("->", text, typePlace(0))), 0},
		{main(typeCon("->", text)), 0},
		{main(typeCon("->", text, reader)), 0},
		{main(round[0]), 0},
		{main(typeCon("->", text, round[0])), 0},
		{main(impl.Type{}), 0},
		{main(nested(100000, typeCon("Char"))), 0},
	} {
		if got := impl.MainKind(c.r); got != c.want {
			t.Errorf("row %d is of the kind %d", i, got)
		}
	}
}
