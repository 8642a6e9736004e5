package tests

import (
	"strings"
	"testing"

	"loop.example/g00017/impl"
)

// eqAhead has a class, one above it, and some instances.
const eqAhead = " class Eq a where { (==) :: a -> a -> Bool } ; class Eq a => Ord a where { (<=) :: a -> a -> Bool } ; instance Eq Int where { (==) = primEq } ; instance Ord Int where { x <= y = True } ; instance Eq a => Eq [a] where { x == y = True } ; instance ( Eq b , Eq a ) => Eq ( a , b ) where { ( x , y ) == ( z , w ) = if y == w then x == z else False } ; "

func TestBuiltinTypes(t *testing.T) {
	rows := map[string]string{
		"primOrd":    "Char -> Int",
		"primChr":    "Int -> Char",
		"primShow":   "Int -> [Char]",
		"primAppend": "[a] -> [a] -> [a]",
		"primSeq":    "a -> b -> b",
		"primError":  "[Char] -> a",
		"negate":     "Int -> Int",
		"primEq":     "Int -> Int -> Bool",
		"primLess":   "Int -> Int -> Bool",
	}
	for _, name := range []string{"primAdd", "primSub", "primMul", "primDiv", "primMod"} {
		rows[name] = "Int -> Int -> Int"
	}
	counts := map[string]int64{"primAppend": 1, "primSeq": 2, "primError": 1}
	for _, name := range impl.BuiltinNames() {
		s := impl.BuiltinType(name)
		if impl.FormatScheme(s) != rows[name] || s.Count != counts[name] || len(s.Preds) != 0 || impl.TypeFault(s.Type) {
			t.Errorf("%s is %s", name, schemeText(s))
		}
		if closed := impl.Close(impl.Open(s, 5), nil, nil); schemeText(closed) != schemeText(s) {
			t.Errorf("%s: places are not by first appearance: %s", name, schemeText(s))
		}
		delete(rows, name)
	}
	if len(rows) > 0 {
		t.Errorf("%d are left", len(rows))
	}
	for _, name := range []string{"", "primadd", "prim", "primAdd ", "M.primAdd", "primAddprimSub", "Negate", "negat", "True", ":", "[]", "Int", "Main.main", "x", "\x00", strings.Repeat("primAdd", 10000)} {
		if s := impl.BuiltinType(name); s.Count != 0 || len(s.Preds) != 0 || s.Type.Kind != 0 || s.Type.Name != "" || s.Type.Id != 0 || len(s.Type.Args) != 0 {
			t.Errorf("%q has the type %s", name, schemeText(s))
		}
	}
}

func TestEachExpressionHasItsType(t *testing.T) {
	checkTypes(t, eqAhead+"data D a b = A | B a b | C (D b a) ; ", [][2]string{
		{"f = 1", "f :: Int"},
		{"f = 'a'", "f :: Char"},
		{"f = \"\"", "f :: [Char]"},
		{"f = \"ab\"", "f :: [Char]"},
		{"f = - 1", "f :: Int"},
		{"f = - 'a'", "?M.f"},
		{"f = True", "f :: Bool"},
		{"f = A", "f :: D a b"},
		{"f = B", "f :: a -> b -> D a b"},
		{"f = B 1", "f :: a -> D Int a"},
		{"f = B 1 'a'", "f :: D Int Char"},
		{"f = B 1 'a' 2", "?M.f"},
		{"f = C (B 1 'a')", "f :: D Char Int"},
		{"f = C 1", "?M.f"},
		{"f = (:)", "f :: a -> [a] -> [a]"},
		{"f = 1 : 2", "?M.f"},
		{"f = 1 : [ 'a' ]", "?M.f"},
		{"f x = x", "f :: a -> a"},
		{"f x = x 1", "f :: (Int -> a) -> a"},
		{"f x = x 1 'a'", "f :: (Int -> Char -> a) -> a"},
		{"f x = x 1 (x 2 'a')", "f :: (Int -> Char -> Char) -> Char"},
		{"f x = x 1 (x 'a' 2)", "?M.f"},
		{"f = 1 2", "?M.f"},
		{"f = primAdd", "f :: Int -> Int -> Int"},
		{"f = primAdd 1", "f :: Int -> Int"},
		{"f = primAdd 1 2", "f :: Int"},
		{"f = primAdd 1 2 3", "?M.f"},
		{"f = primAdd 'a'", "?M.f"},
		{"f x = x x", "?M.f"},
		{"f x = f", "?M.f"},
		{"f x = [ x , [ x ] ]", "?M.f"},
		{"f = \\ x -> x", "f :: a -> a"},
		{"f = \\ x y -> y x", "f :: a -> (a -> b) -> b"},
		{"f = \\ ( x , y ) 1 -> [ x , y ]", "f :: (a, a) -> Int -> [a]"},
		{"f = (\\ x -> ( x 1 , x 'a' ))", "?M.f"},
		{"f = let { } in 1", "f :: Int"},
		{"f = let { x = 1 } in x", "f :: Int"},
		{"f = let { x = 1 ; y = x } in [ y , 'a' ]", "?M.f"},
		{"f x y = if x then y else 1", "f :: Bool -> Int -> Int"},
		{"f x y = if 1 then x else y", "?M.f"},
		{"f x = if x then x else 1", "?M.f"},
		{"f x y = if x then 1 else 'a'", "?M.f"},
		{"f x y z = if x then y else z", "f :: Bool -> a -> a -> a"},
		{"f x = case x of { _ -> 1 }", "f :: a -> Int"},
		{"f x = case x of { 1 -> 'a' ; _ -> 'b' }", "f :: Int -> Char"},
		{"f x = case x of { 1 -> 'a' ; _ -> 2 }", "?M.f"},
		{"f x = case x of { 1 -> 'a' ; 'b' -> 'c' }", "?M.f"},
		{"f x = case 'a' of { 1 -> x }", "?M.f"},
		{"f x = case x of { [ y ] -> y ; y : _ -> y ; _ | x -> 1 }", "?M.f"},
		{"f x y = case x of { [ z ] | z -> y ; _ -> w where { w = y } }", "f :: [Bool] -> a -> a"},
		{"f = ( )", "f :: ()"},
		{"f x = ( x , 1 )", "f :: a -> (a, Int)"},
		{"f a b c d e g h = ( a , b , c , d , e , g , h )", "f :: a -> b -> c -> d -> e -> f -> g -> (a, b, c, d, e, f, g)"},
		{"f = ( 1 , 2 , 3 , 4 , 5 , 6 , 7 , 8 )", "?M.f"},
		{"f = [ ]", "f :: [a]"},
		{"f x = [ x ]", "f :: a -> [a]"},
		{"f x y = [ x , y , x ]", "f :: a -> a -> [a]"},
		{"f = [ 1 , 'a' ]", "?M.f"},
		{"f = [ 1 .. 2 ]", "f :: [Int]"},
		{"f x y = [ x .. y ]", "f :: Int -> Int -> [Int]"},
		{"f = [ 'a' .. 2 ]", "?M.f"},
		{"f = [ 1 .. 'b' ]", "?M.f"},
		{"f x = [ y | y <- x ]", "f :: [a] -> [a]"},
		{"f x = [ ( y , z ) | y <- x , z <- y ]", "f :: [[a]] -> [([a], a)]"},
		{"f x = [ y | ( y , True ) <- x ]", "f :: [(a, Bool)] -> [a]"},
		{"f x = [ x | x <- x ]", "f :: [a] -> [a]"},
		{"f x = [ x | x <- x , x <- x ]", "f :: [[a]] -> [a]"},
		{"f x y = [ y | x ]", "f :: Bool -> a -> [a]"},
		{"f x = [ y | y <- x , y , x ]", "?M.f"},
		{"f x = [ y | y <- 1 ]", "?M.f"},
		{"f x = [ 1 | x , x <- x ]", "?M.f"},
		{"f = [ 1 | 2 ]", "?M.f"},
		{"f = (primAdd 1)", "f :: Int -> Int"},
		{"f = (`primAdd` 1)", "f :: Int -> Int"},
		{"f = (1 `primAdd`)", "f :: Int -> Int"},
		{"f = (`B` 1)", "f :: a -> D a Int"},
		{"f = (== 1)", "f :: Int -> Bool"},
		{"f = ('a' :)", "f :: [Char] -> [Char]"},
		{"f = (1 `primOrd`)", "?M.f"},
	})
}

func TestEachPatternHasItsType(t *testing.T) {
	checkTypes(t, "data D a b = A | B a b | C (D b a) ; ", [][2]string{
		{"f x = 1", "f :: a -> Int"},
		{"f _ = 1", "f :: a -> Int"},
		{"f 1 = 1", "f :: Int -> Int"},
		{"f (-1) = 1", "f :: Int -> Int"},
		{"f 'a' = 1", "f :: Char -> Int"},
		{"f \"a\" = 1", "f :: [Char] -> Int"},
		{"f \"\" = 1", "f :: [Char] -> Int"},
		{"f ( ) = 1", "f :: () -> Int"},
		{"f ( x , y ) = y", "f :: (a, b) -> b"},
		{"f ( x , y , z ) = y", "f :: (a, b, c) -> b"},
		{"f ( _ , _ , _ , _ , _ , _ , _ ) = 1", "f :: (a, b, c, d, e, f, g) -> Int"},
		{"f ( _ , _ , _ , _ , _ , _ , _ , _ ) = 1", "?M.f"},
		{"f [ ] = 1", "f :: [a] -> Int"},
		{"f [ x , y ] = x", "f :: [a] -> a"},
		{"f [ 1 , x ] = x", "f :: [Int] -> Int"},
		{"f [ 1 , 'a' ] = 1", "?M.f"},
		{"f [ 1 , \"\" ] = 1", "?M.f"},
		{"f A = 1", "f :: D a b -> Int"},
		{"f (B x 1) = x", "f :: D a Int -> a"},
		{"f (C (B x 1)) = x", "f :: D Int a -> a"},
		{"f (C (C (B x 1))) = x", "f :: D a Int -> a"},
		{"f (C 1) = 1", "?M.f"},
		{"f (B x) = 1", "?M.f"},
		{"f B = 1", "?M.f"},
		{"f (B x y z) = 1", "?M.f"},
		{"f (A x) = 1", "?M.f"},
		{"f (True x) = 1", "?M.f"},
		{"f True = False", "f :: Bool -> Bool"},
		{"f (x : y) = y", "f :: [a] -> [a]"},
		{"f (x : 1) = x", "?M.f"},
		{"f (1 : 'a' : x) = 1", "?M.f"},
		{"f (x : 'a' : y) = x", "f :: [Char] -> Char"},
		{"f x@( y , z ) = ( x , z )", "f :: (a, b) -> ((a, b), b)"},
		{"f x@y = [ x , y ]", "f :: a -> [a]"},
		{"f x@1 = x", "f :: Int -> Int"},
		{"f x@(y : _) = [ x , y ]", "?M.f"},
		{"f ~( x , y ) = x", "f :: (a, b) -> a"},
		{"f !x = x", "f :: a -> a"},
		{"f !1 = 'a'", "f :: Int -> Char"},
		{"f ~( x , !y ) z@(w : _) = [ x , y , w ]", "f :: (a, a) -> [a] -> [a]"},
		{"f x = case x of { B 1 y -> y ; C (B z _) -> z ; A -> 'a' }", "f :: D Int Char -> Char"},
		{"f = \\ (B x _) -> x", "f :: D a b -> a"},
		{"f = \\ (B x) -> x", "?M.f"},
		{"f x = [ y | B 1 y <- x ]", "f :: [D Int a] -> [a]"},
		{"f x = [ y | B y <- x ]", "?M.f"},
	})
}

func TestClausesGuardsAndBlocks(t *testing.T) {
	checkTypes(t, eqAhead, [][2]string{
		{"f 1 = 'a' ; f x = 'b'", "f :: Int -> Char"},
		{"f 1 = 'a' ; f x = 2", "?M.f"},
		{"f 1 = 'a' ; f 'a' = 'b'", "?M.f"},
		{"f 1 x = x ; f _ y = [ y ]", "?M.f"},
		{"f _ x = x ; f y _ = y", "f :: a -> a -> a"},
		{"f 1 = 2 ; f x y = 2", "??f"},
		{"f = 1 ; f = 2", "f :: Int"},
		{"f = 1 ; f = 'a'", "?M.f"},
		{"f x | x = 1", "f :: Bool -> Int"},
		{"f x | x = 1 | True = 2", "f :: Bool -> Int"},
		{"f x | x = 1 | True = 'a'", "?M.f"},
		{"f x | 1 = x", "?M.f"},
		{"f x | True = x | 'a' = x", "?M.f"},
		{"f x | y = z where { y = x ; z = [ y ] }", "f :: Bool -> [Bool]"},
		{"f x | y = 1 where { y = 1 }", "?M.f"},
		{"f x = y where { y = x x }", "?M.f"},
		{"f x = 1 where { y = x x }", "?M.f"},
		{"f x = 1 where { y = 1 1 }", "?M.f"},
		{"f x = 1 where { y = z ; z = 'a' ; w = primAdd z 1 }", "?M.f"},
		{"f x = ( g 1 , g 'a' ) where { g y = ( x , y ) }", "f :: a -> ((a, Int), (a, Char))"},
		{"f x = ( g 1 , g 'a' ) where { g y = [ x , y ] }", "?M.f"},
		{"f g = ( g 1 , g 'a' )", "?M.f"},
		{"f = let { g = \\ x -> x } in ( g 1 , g 'a' )", "f :: (Int, Char)"},
		{"f x = let { g = x } in ( g 1 , g 'a' )", "?M.f"},
		{"f x = let { g = x } in ( g 1 , g 2 )", "f :: (Int -> a) -> (a, a)"},
		{"f x = let { x = 1 } in x", "f :: a -> Int"},
		{"f x = let { g x = x } in ( g 1 , g x )", "f :: a -> (Int, a)"},
		{"f x = case x of { y -> ( y 1 , y 'a' ) }", "?M.f"},
		{"f x = [ ( y 1 , y 'a' ) | y <- x ]", "?M.f"},
		{"f = let { g x = h x ; h x = g x } in ( g 1 , g 'a' , h 'a' )", "f :: (a, b, c)"},
		{"f = let { g x = ( h x , h 1 ) ; h y = y } in g 'a'", "f :: (Char, Int)"},
		{"f = let { g x = ( h x , h 1 ) ; h y = case g y of { _ -> y } } in g 2", "f :: (Int, Int)"},
		{"f = let { g x = ( h x , h 1 ) ; h y = case g y of { _ -> y } } in g 'a'", "?M.f"},
		{"f x = case x of { y | z -> w | True -> y where { z = True ; w = y } }", "f :: a -> a"},
		{"f x = case x of { y | z -> w where { z = y ; w = [ y ] } }", "f :: Bool -> [Bool]"},
		{"f x = case x of { y | z -> w where { z = y ; w = y y } }", "?M.f"},
		{"f primAdd = primAdd 'a'", "f :: (Char -> a) -> a"},
		{"f = let { negate x = 'a' } in negate 'b'", "f :: Char"},
		{"f x = g x ; g x = h x ; h x = f x", "f :: a -> b; g :: a -> b; h :: a -> b"},
		{"f x = ( g x , g 1 ) ; g y = y", "f :: a -> (a, Int); g :: a -> a"},
		{"f x = ( g x , g 1 ) ; g y = case f y of { _ -> y }", "f :: Int -> (Int, Int); g :: Int -> Int"},
		{"f x = ( g x , g 'a' , g 1 ) ; g y = case f y of { _ -> y }", "?M.f"},
		{"f = g ; g = f", "f :: a; g :: a"},
		{"f = ( f , f )", "?M.f"},
	})
}

// A thing names another one only where nothing within it binds or defines the name. In each row g would be in one group with h, if it named it, and could not be used at two types there.
func TestNamesThatAreBoundWithin(t *testing.T) {
	for _, clause := range []string{
		"g x = ( \\ h -> h ) x",
		"g x = ( \\ ( h , y ) -> h ) ( x , 1 )",
		"g h = h",
		"g y@h = h",
		"g h@y = h",
		"g (~h) = h",
		"g (!h) = h",
		"g x = case x of { h -> h }",
		"g x = case x of { h | True -> h ; y | True -> y where { h = y } }",
		"g x = case x of { y | h -> y where { h = True } }",
		"g x = let { h = x } in h",
		"g x = let { y = h ; h = x } in y",
		"g x = h where { h = x }",
		"g x | h = x where { h = True }",
		"g x = y where { y = z where { z = h } ; h = x }",
		"g x = primSeq [ h | h <- [ x ] ] x",
		"g x = primSeq [ h | h <- [ x ] , y <- [ h ] , primEq 1 2 ] x",
		"g x = primSeq [ y | h <- [ x ] , y <- [ h ] ] x",
		"g x = primSeq [ 1 | h <- [ True ] , h ] x",
		"g x = let { h y = y } in h x",
		"g x = let { h :: a -> a ; h y = y } in h x",
	} {
		checkTypes(t, "", [][2]string{
			{"f = let { " + clause + " ; h y = ( g y , g 'a' , g 1 ) } in 1", "f :: Int"},
			{"f = let { h y = ( g y , g 'a' , g 1 ) ; " + clause + " } in 1", "f :: Int"},
		})
	}
	for _, clause := range []string{
		"g x = primSeq h x",
		"g x = primSeq [ h | h <- [ h ] ] x",
		"g x = primSeq [ 1 | y <- [ h ] , h <- [ x ] ] x",
		"g x = primSeq [ h | y <- [ x ] , True ] x",
		"g x = primSeq ( ( \\ h -> h ) h ) x",
		"g x = case h of { h -> x }",
		"g x = primSeq ( let { h = 1 } in h ) ( primSeq h x )",
		"g x = primSeq y x where { y = h }",
		"g x | primSeq h True = x",
		"g x = case x of { y | primSeq h True -> y }",
		"g h = h ; g x = primSeq h x",
	} {
		checkTypes(t, "", [][2]string{{"f = let { " + clause + " ; h y = ( g y , g 'a' , g 1 ) } in 1", "?M.f"}})
	}
}
