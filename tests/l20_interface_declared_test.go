package tests

import (
	"testing"

	"loop.example/g00017/impl"
)

func TestDeclarationsInTheirOrder(t *testing.T) {
	checkInterfaces(t, someTyped(), [][2]string{
		{"module M where { " + sortsOfDecls + " }", "data T\nf :: a -> a\nclass K\n(+) :: Int -> Int -> Int\ng :: (Eq a, Show b) => a -> b\n(!) :: (a -> b) -> [T b]\n(~) :: ()\nclass K2\n(.) :: (a, b)\n_x' :: a\ndata T2\n"},
		{"module M where { f = 1 ; g = 2 }", "f :: a -> a\ng :: (Eq a, Show b) => a -> b\n"},
		{"module M where { g = 2 ; f = 1 }", "g :: (Eq a, Show b) => a -> b\nf :: a -> a\n"},
		{"module M where { class K a where { } ; x + y = 1 ; data T = A }", "class K\n(+) :: Int -> Int -> Int\ndata T\n"},
	})
}

// A value stands where its first clause does, once, also where its clauses do not stand together.
func TestValuesOfSeveralClauses(t *testing.T) {
	checkInterfaces(t, someTyped(), [][2]string{
		{"module M where { f 1 = 1 ; f 2 = 2 ; f x = x ; g = 1 }", "f :: a -> a\ng :: (Eq a, Show b) => a -> b\n"},
		{"module M where { g 1 = 1 ; f 1 = 1 ; g 2 = 2 ; data T = A ; f = 1 ; g 3 4 = 3 }", "g :: (Eq a, Show b) => a -> b\nf :: a -> a\ndata T\n"},
		{"module M where { 1 + 2 = 3 ; data T = A ; (+) 3 4 = 5 ; x + y = y }", "(+) :: Int -> Int -> Int\ndata T\n"},
		{"module M where { none = 1 ; f = 1 ; none = 2 ; bad = 1 ; bad = 2 }", "f :: a -> a\n"},
	})
}

// Signatures, instances, fixities and imports have no line; nor have methods and constructors, nor what blocks define.
func TestDeclarationsWithoutLines(t *testing.T) {
	checkInterfaces(t, someTyped(), [][2]string{
		{"module M where { f , g , u :: a -> a ; (+) :: Int }", ""},
		{"module M where { instance K Int where { k = 1 ; f = 2 } ; instance U a where { u = 1 } }", ""},
		{"module M where { infixl 3 + , ` f ` , ! ; infix 0 ` u ` }", ""},
		{"module M where { import N ; import M ( f , T , (+) ) ; import K }", ""},
		{"module M where { class K a where { k , f :: a ; g :: a } ; data T a = U a | K }", "class K\ndata T\n"},
		{"module M where { f = u where { u = g ; g :: a ; g = \\ k -> let { _x' = k } in _x' } }", "f :: a -> a\n"},
		{"module M where { import N ; infix 3 ` f ` ; f :: a ; f = 1 ; instance K T where { k = f } ; g :: a ; data T = A ; g = f }", "f :: a -> a\ndata T\ng :: (Eq a, Show b) => a -> b\n"},
	})
}

// What stands under a name of what is built in, or under that of a word of the chapter's, is a value like others.
func TestDeclarationsOfKnownNames(t *testing.T) {
	types := []impl.Typed{typedAs("M.negate", "Int", ""), typedAs("M.primAdd", "Char", ""), typedAs("negate", "Char", ""), typedAs("M.all", "Bool", ""), typedAs("M.Bool", "Bool", "")}
	checkInterfaces(t, types, [][2]string{
		{"module M where { primAdd = 1 ; negate = 2 ; data Bool = True ; all = 1 ; class Int a where { } ; primSub = 1 }", "primAdd :: Char\nnegate :: Int\ndata Bool\nall :: Bool\nclass Int\n"},
		{"module M ( all , Int , negate , primSub , Bool , primAdd ) where { data Bool = True }", "all :: Bool\nnegate :: Int\ndata Bool\nprimAdd :: Char\n"},
		{"module M ( all ) where { all = 1 ; f = 2 }", "all :: Bool\n"},
	})
}

// What Resolve does not take has an interface, too.
func TestInterfacesOfProgramsWithFaults(t *testing.T) {
	checkInterfaces(t, someTyped(), [][2]string{
		{"module M where { import M ; import Nowhere ; f = nothing ; data T = A Nothing ; data U = A | A ; class K a where { k :: b } ; class K3 a where { k :: a } }", "f :: a -> a\ndata T\ndata U\nclass K\nclass K3\n"},
		{"module M ( f , Nothing ) where { f x x = x ; f = 1 + 2 == 3 }", "f :: a -> a\n"},
		{"module M where { data T = A ; data U = A deriving ( K , K ) ; f :: a ; f :: b ; f = 'a' 1 }", "data T\ndata U\nf :: a -> a\n"},
	})
	again := []impl.Node{dataNamed("T", "A"), value("f", tree(impl.NNum, "1")), dataNamed("T", "A")}
	if got := checkInterface(t, defining("M", again...), someTyped()); got != "data T\nf :: a -> a\ndata T\n" {
		t.Errorf("%s", got)
	}
	if got := checkInterface(t, exporting("M", []string{"T", "f"}, again...), someTyped()); got != "data T\nf :: a -> a\n" {
		t.Errorf("%s", got)
	}
}
