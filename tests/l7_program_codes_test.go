package tests

import (
	"slices"
	"testing"

	"loop.example/g00017/impl"
)

// Faults that are told ahead of all modules.
func TestFaultsOfLists(t *testing.T) {
	checkResolved(t, [][2]string{
		{"", ""}, {"module A where { }", ""}, {"module A where { } module B where { } module A where { }", "?2 A"}, {"module A where { } module A where { }", "?2 A"}, {"module A where { } module B where { } module B where { } module A where { }", "?2 B"}, {"module B where { } module A where { } module A where { } module B where { }", "?2 A"}, {"module A where { } module A where { } module A where { }", "?2 A"},
		{"module A where { import B }", "?3 A B"}, {"module A where { import B ; import C } module B where { }", "?3 A C"}, {"module A where { } module B where { import Z ; import Y } module C where { import X }", "?3 B Z"}, {"module A where { import B } module B where { import C }", "?3 B C"}, {"module A where { import B ( x ) }", "?3 A B"}, {"module C where { import A } module A where { import Y } module B where { import Z }", "?3 A Y"},
		{"module A where { import A }", "?4"}, {"module A where { } module B where { import B }", "?4"}, {"module A where { import B } module B where { import A }", "?4"}, {"module A where { import B } module B where { import C } module C where { import A }", "?4"}, {"module D where { import A } module A where { import B } module B where { import C } module C where { import B }", "?4"}, {"module A where { import B ; import A } module B where { }", "?4"}, {"module A where { import A ( x ) }", "?4"},
		{"module A where { import Z } module A where { }", "?2 A"}, {"module A where { import A ; import Z }", "?3 A Z"}, {"module A where { import A } module A where { }", "?2 A"}, {"module A where { import A } module B where { import Z }", "?3 B Z"}, {"module A where { import A } module B where { x = y }", "?4"}, {"module A where { x = y } module B where { import Z }", "?3 B Z"}, {"module A where { x = y } module A where { }", "?2 A"},
	})
	good, bad := tree(impl.DModule, "A", tree(impl.DNames, "all")), tree(impl.DModule, "B")
	for _, n := range []impl.Node{{}, bad, tree(impl.NVar, "x"), tree(impl.DNames, "all"), tree(impl.DModule, "a", tree(impl.DNames, "all")), tree(impl.DModule, "", tree(impl.DNames, "")), tree(impl.DModule, "B", tree(impl.DImport, "A")), tree(impl.DModule, "B", tree(impl.DNames, "", tree(impl.DNames, "")))} {
		for _, list := range [][]impl.Node{{n}, {good, n}, {n, good}, {good, good, n}, {good, n, n}, {n, modulesOf(t, "module C where { import Z }")[0]}, {modulesOf(t, "module C where { import C }")[0], n}, {modulesOf(t, "module C where { x = y }")[0], n}} {
			if got := checkProgram(t, list); got.Code != 1 || got.Module != "" || got.Name != "" || len(got.Decls) > 0 {
				t.Errorf("%s is %s", kinded(n), programText(got))
			}
		}
	}
}

func TestDefinedTwice(t *testing.T) {
	checkResolved(t, [][2]string{
		{"module A where { x = 1 ; y = 2 ; x = 3 }", "?5 A x"}, {"module A where { x = 1 ; x = 2 }", "A.x = 1 ; A.x = 2"}, {"module A where { x = 1 ; y = 2 ; z = 3 ; y = 4 ; x = 5 }", "?5 A y"}, {"module A where { x 1 = 1 ; x :: Int ; x 2 = 2 }", "?5 A x"}, {"module A where { x 1 = 1 ; infix 3 + ; x 2 = 2 }", "?5 A x"}, {"module A where { (+) = 1 ; (*) = 2 ; (+) = 3 }", "?5 A +"}, {"module A where { x = 1 ; data T = P ; x = 2 }", "?5 A x"},
		{"module A where { class K a where { x :: a } ; x = 1 }", "?5 A x"}, {"module A where { x = 1 ; class K a where { x :: a } }", "?5 A x"}, {"module A where { class K a where { x :: a } ; class L a where { x :: a } }", "?5 A x"}, {"module A where { class K a where { x :: a ; y :: a ; x :: a } }", "?5 A x"}, {"module A where { class K a where { x , y , y , x :: a } }", "?5 A y"}, {"module A where { class K a where { x :: a } ; x = 1 ; x = 2 }", "?5 A x"},
		{"module A where { data T = P ; data U = P }", "?5 A P"}, {"module A where { data T = P | Q | P }", "?5 A P"}, {"module A where { data T = P | Q | Q | P }", "?5 A Q"}, {"module A where { data T = P ; data T = Q }", "?5 A T"}, {"module A where { data T = P ; data T = P }", "?5 A T"}, {"module A where { data T = P ; class T a where { } }", "?5 A T"}, {"module A where { class T a where { } ; data T = P }", "?5 A T"}, {"module A where { class T a where { } ; class T a where { } }", "?5 A T"}, {"module A where { class T a where { x :: a } ; class T a where { x :: a } }", "?5 A T"},
		{"module A where { x :: Int ; x :: Int ; x = 1 }", "?5 A x"}, {"module A where { x , y , x :: Int ; x = 1 ; y = 2 }", "?5 A x"}, {"module A where { x :: Int ; y , x :: Int ; x = 1 ; y = 2 }", "?5 A x"}, {"module A where { x :: Int ; x = 1 ; x :: Char }", "?5 A x"}, {"module A where { x , y , y , x :: Int }", "?5 A y"}, {"module A where { x :: Int ; x :: Int }", "?5 A x"}, {"module A where { class K a where { x :: a } ; x :: Int ; x :: Int }", "?5 A x"},
		{"module A where { y = 1 ; x = 2 ; y = 3 ; data T = P | P }", "?5 A y"}, {"module A where { data T = P | P ; y = 1 ; x = 2 ; y = 3 }", "?5 A P"}, {"module A where { x :: Int ; x :: Int ; y = 1 ; x = 2 ; y = 3 }", "?5 A x"}, {"module A where { y = 1 ; x = 2 ; y = 3 ; x :: Int ; x :: Int }", "?5 A y"},
		{"module A where { data T = T ; class K a where { t :: a } ; data K' = K ; t' = 1 }", "data A.T = A.T ; class A.K a where { A.t :: a } ; data A.K' = A.K ; A.t' = 1"}, {"module A where { data P = Q ; data Q = P }", "data A.P = A.Q ; data A.Q = A.P"}, {"module A where { instance K Int where { } ; instance K Int where { } ; class K a where { } }", "instance A.K Int where { } ; instance A.K Int where { } ; class A.K a where { }"},
		{"module A where { x = 1 } module B where { x = 1 }", "A.x = 1 ; B.x = 1"}, {"module A where { import B ; x = 1 ; data T = P ; class K a where { m :: a } } module B where { x = 1 ; data T = P ; class K a where { m :: a } }", "B.x = 1 ; data B.T = B.P ; class B.K a where { B.m :: a } ; A.x = 1 ; data A.T = A.P ; class A.K a where { A.m :: a }"}, {"module A where { primAdd = 1 ; data Int = True ; class Bool a where { negate :: a } }", "A.primAdd = 1 ; data A.Int = A.True ; class A.Bool a where { A.negate :: a }"},
		{"module B where { } module A where { x = 1 ; y = 2 ; x = 3 }", "?5 A x"}, {"module A where { import B ; x = 1 ; y = 2 ; x = 3 } module B where { z = 1 ; y = 2 ; z = 3 }", "?5 B z"},
	})
}

func TestExportsOfNothing(t *testing.T) {
	checkResolved(t, [][2]string{
		{"module A ( x ) where { }", "?6 A x"}, {"module A ( x , y ) where { x = 1 }", "?6 A y"}, {"module A ( y , z , x ) where { x = 1 }", "?6 A y"}, {"module A ( x , x ) where { x = 1 }", "A.x = 1"}, {"module A ( (+) ) where { x = 1 }", "?6 A +"}, {"module A ( (+) , (!) , (~) ) where { (+) = 1 ; (!) = 2 ; (~) = 3 }", "A.+ = 1 ; A.! = 2 ; A.~ = 3"}, {"module A ( ) where { x = 1 }", "A.x = 1"},
		{"module A ( T ) where { data T = P }", "data A.T = A.P"}, {"module A ( P ) where { data T = P }", "?6 A P"}, {"module A ( (:) ) where { }", "?6 A :"}, {"module A ( T , P ) where { data T = P }", "?6 A P"}, {"module A ( K , m ) where { class K a where { m :: a } }", "class A.K a where { A.m :: a }"}, {"module A ( m ) where { class K a where { m :: a } }", "class A.K a where { A.m :: a }"}, {"module A ( K ) where { data T = K }", "?6 A K"}, {"module A ( x ) where { f x = 1 }", "?6 A x"}, {"module A ( x ) where { f = 1 where { x = 2 } }", "?6 A x"},
		{"module A ( x ) where { x :: Int }", "?6 A x"}, {"module A ( primAdd ) where { }", "?6 A primAdd"}, {"module A ( Int ) where { }", "?6 A Int"}, {"module A ( True ) where { }", "?6 A True"}, {"module A ( Bool ) where { }", "?6 A Bool"}, {"module A ( A ) where { }", "?6 A A"}, {"module A ( x ) where { import B } module B where { x = 1 }", "?6 A x"}, {"module A ( T ) where { import B } module B where { data T = P }", "?6 A T"}, {"module A ( a ) where { data T a = P a }", "?6 A a"},
		{"module B ( y ) where { } module A ( x ) where { }", "?6 B y"}, {"module B ( y ) where { import A } module A ( x ) where { }", "?6 A x"},
	})
}

func TestImportsOfNothing(t *testing.T) {
	const other = " module B ( g , T , K , m' ) where { g = 1 ; h = 2 ; data T = P | Q ; data U = R ; class K a where { m :: a } ; class L a where { m' , n :: a } }"
	const after = "B.g = 1 ; B.h = 2 ; data B.T = B.P | B.Q ; data B.U = B.R ; class B.K a where { B.m :: a } ; class B.L a where { B.m' , B.n :: a }"
	checkResolved(t, [][2]string{
		{"module A where { import B ( h ) }" + other, "?7 A h"}, {"module A where { import B ( g , h ) }" + other, "?7 A h"}, {"module A where { import B ( z , h ) }" + other, "?7 A z"}, {"module A where { import B ( g ) ; import B ( h ) }" + other, "?7 A h"}, {"module A where { import B ( U ) }" + other, "?7 A U"}, {"module A where { import B ( P ) }" + other, "?7 A P"}, {"module A where { import B ( L ) }" + other, "?7 A L"}, {"module A where { import B ( n ) }" + other, "?7 A n"}, {"module A where { import B ( A ) }" + other, "?7 A A"}, {"module A where { import B ( Int ) }" + other, "?7 A Int"}, {"module A where { import B ( primAdd ) }" + other, "?7 A primAdd"}, {"module A where { import B ( (:) ) }" + other, "?7 A :"}, {"module A where { import B ( (+) ) }" + other, "?7 A +"}, {"module A where { import B ; import B ( h ) }" + other, "?7 A h"},
		{"module A where { import B ( m , m' , g , T , K ) }" + other, after}, {"module A where { import B ( ) }" + other, after}, {"module A where { import B ( g , g ) ; import B ( g ) }" + other, after}, {"module A where { import C ( h ) ; import B ( h ) }" + other + " module C where { h = 1 }", "?7 A h"}, {"module C where { import A ( g ) } module A where { import B }" + other, "?7 C g"},
		{"module A where { import B ( zz ) } module B where { x = y }", "?9 B y"}, {"module C where { import B ( zz ) } module A where { import B ( zzz ) } module B where { }", "?7 C zz"},
	})
}

func TestClashesOfModules(t *testing.T) {
	checkResolved(t, [][2]string{
		{"module A where { x = 1 + 2 + 3 ; infix 3 + }", "?8 A +"}, {"module A where { x = y + z * w ; infixl 3 + ; infixr 3 * }", "?8 A *"}, {"module A where { f x = x where { g ( a : b : c ) = a ; infixl 5 : ; h = a `f` b `g` c ; infix 4 `f` , `g` } }", "?8 A g"}, {"module A where { import B ; x = 1 + 2 + 3 } module B where { infix 3 + ; (+) = 1 }", "?8 A +"}, {"module A where { import B ; x = 1 + 2 + 3 } module B ( ) where { infix 3 + ; (+) = 1 }", "?9 A +"},
		{"module B where { import A } module A where { infix 1 : ; f ( x : y : z ) = 1 }", "?8 A :"},
	})
}

func TestNamesOfNothing(t *testing.T) {
	checkResolved(t, [][2]string{
		{"module A where { x = y }", "?9 A y"}, {"module A where { x = Y }", "?9 A Y"}, {"module A where { x :: T ; x = 1 }", "?9 A T"}, {"module A where { x :: K a => a ; x = 1 }", "?9 A K"}, {"module A where { f P = 1 }", "?9 A P"}, {"module A where { f ( x : P ) = 1 }", "?9 A P"}, {"module A where { x = ( 1 + ) }", "?9 A +"}, {"module A where { x = ( + 1 ) }", "?9 A +"}, {"module A where { x = 1 + 2 }", "?9 A +"}, {"module A where { x = 1 : 2 :+ 3 }", "?9 A :+"}, {"module A where { x = ( `P` 1 ) }", "?9 A P"}, {"module A where { x = ( 1 :+ ) }", "?9 A :+"},
		{"module A where { data T = P U }", "?9 A U"}, {"module A where { data T = P deriving ( Eq ) }", "?9 A Eq"}, {"module A where { class K a where { m :: T } }", "?9 A T"}, {"module A where { class L a => K a where { } }", "?9 A L"}, {"module A where { class K a where { m :: L b => a } }", "?9 A L"}, {"module A where { instance K Int where { } }", "?9 A K"}, {"module A where { class K a where { } ; instance K T where { } }", "?9 A T"}, {"module A where { class K a where { } ; instance L a => K Int where { } }", "?9 A L"}, {"module A where { class K a where { } ; instance K Int where { m = 1 } }", "?9 A m"}, {"module A where { data T = P T ; x :: P ; x = 1 }", "?9 A P"}, {"module A where { data T = P T ; x = T }", "?9 A T"}, {"module A where { class K a where { } ; x = K }", "?9 A K"},
		{"module A where { f x = 1 ; g = x }", "?9 A x"}, {"module A where { f = 1 where { x = 2 } ; g = x }", "?9 A x"}, {"module A where { f = ( let { x = 1 } in 2 ) x }", "?9 A x"}, {"module A where { f = ( \\ x -> 1 ) x }", "?9 A x"}, {"module A where { f = [ 1 | x <- x ] }", "?9 A x"}, {"module A where { f = [ y | x <- y , y <- x ] }", "?9 A y"}, {"module A where { f = ( case x of { x -> 1 } ) }", "?9 A x"}, {"module A where { f = ( case 1 of { x -> 1 ; y -> x } ) }", "?9 A x"}, {"module A where { f = [ [ 1 | x <- [ ] ] , x ] }", "?9 A x"}, {"module A where { f x | 1 = 2 ; f y = x }", "?9 A x"}, {"module A where { f = s' }", "?9 A s'"}, {"module A where { (+) = 1 ; f = ( + s' ) }", "?9 A s'"},
		{"module A where { import B ( ) ; x = g } module B where { g = 1 }", "?9 A g"}, {"module A where { import B ; x = h } module B ( g ) where { g = 1 ; h = 2 }", "?9 A h"}, {"module A where { import B ; x = R } module B ( T ) where { data T = P ; data U = R }", "?9 A R"}, {"module A where { import B ( T ) ; x = R } module B where { data T = P ; data U = R }", "?9 A R"}, {"module A where { import B ( m ) ; x = m ; instance K Int where { } } module B where { class K a where { m :: a } }", "?9 A K"}, {"module A where { import B ; x = g } module B where { import C } module C where { g = 1 }", "?9 A g"}, {"module A where { x = g } module B where { g = 1 }", "?9 A g"}, {"module A where { x = A }", "?9 A A"}, {"module A where { x :: A ; x = 1 }", "?9 A A"},
		{"module A where { x = y ; z = w }", "?9 A y"}, {"module B where { x = y } module A where { z = w }", "?9 B y"}, {"module B where { import A ; x = y } module A where { z = w }", "?9 A w"},
	})
}

func TestNamesOfSeveralThings(t *testing.T) {
	checkResolved(t, [][2]string{
		{"module A where { import B ; g = 1 ; x = g } module B where { g = 1 }", "?10 A g"}, {"module A where { import B ; import C ; x = g } module B where { g = 1 } module C where { g = 1 }", "?10 A g"}, {"module A where { import B ; x = P } module B where { data T = P } module C where { data T = P }", "data B.T = B.P ; A.x = B.P ; data C.T = C.P"}, {"module A where { import B ; import C ( T ) ; x = P } module B where { data U = P } module C where { data T = P }", "?10 A P"}, {"module A where { import B ; import C ; x :: T ; x = 1 } module B where { data T = P } module C where { class T a where { } }", "?10 A T"},
		{"module A where { primAdd = 1 ; x = primAdd }", "?10 A primAdd"}, {"module A where { data T = True ; x = True }", "?10 A True"}, {"module A where { data Int = P ; x :: Int ; x = 1 }", "?10 A Int"}, {"module A where { class Bool a where { } ; instance Bool Char where { } }", "?10 A Bool"}, {"module A where { negate = 1 ; x = - 1 }", "?10 A negate"}, {"module A where { import B ; x = negate } module B where { negate = 1 }", "?10 A negate"}, {"module A where { negate = 1 ; x negate = - 1 }", "A.negate = 1 ; A.x negate = ( negate 1 )"},
		{"module A where { import B ; import C ; f P = 1 } module B where { data T = P } module C where { data U = P }", "?10 A P"}, {"module A where { import B ; class K a where { m :: a } ; instance K Int where { m = 1 } } module B where { m = 1 }", "?10 A m"}, {"module A where { import B ; import C ; instance K Int where { } } module B where { class K a where { } } module C where { class K a where { } }", "?10 A K"}, {"module A where { import B ; import C ; data T = P deriving ( Eq ) } module B where { class Eq a where { } } module C where { class Eq a where { } }", "?10 A Eq"}, {"module A where { import B ; (+) = 1 ; x = ( + 1 ) } module B where { (+) = 1 }", "?10 A +"}, {"module A where { import B ; (+) = 1 ; x = ( 1 + ) } module B where { (+) = 1 }", "?10 A +"},
		{"module A where { import B ; import B ( g ) ; import B ; x = g } module B where { g = 1 }", "B.g = 1 ; A.x = B.g"}, {"module A where { import B ( T ) ; import B ( T ) ; x = P } module B where { data T = P }", "data B.T = B.P ; A.x = B.P"}, {"module A where { import B ; import C ; import B ( g ) ; x = g } module B where { g = 1 } module C where { g = 1 }", "?10 A g"}, {"module A where { import B ; import C ; import D ; import B ; x = g } module B where { g = 1 } module C where { g = 1 } module D where { g = 1 }", "?10 A g"}, {"module A where { import B ; g = 1 ; x g = g ; y = ( let { g = 2 } in g ) } module B where { g = 1 }", "B.g = 1 ; A.g = 1 ; A.x g = g ; A.y = ( let { g = 2 } in g )"}, {"module A where { import B ; import C ; f P' = 1 ; g = m } module B where { data T = P } module C where { class P a where { m :: a } ; data U = P' }", "data B.T = B.P ; class C.P a where { C.m :: a } ; data C.U = C.P' ; A.f C.P' = 1 ; A.g = C.m"},
		{"module A ( g ) where { import B ; g = 1 } module B where { g = 1 }", "B.g = 1 ; A.g = 1"}, {"module A where { import B ( h ) ; g = 1 ; x = g } module B where { g = 1 ; h = 1 }", "B.g = 1 ; B.h = 1 ; A.g = 1 ; A.x = A.g"},
	})
}

func TestBoundTwice(t *testing.T) {
	checkResolved(t, [][2]string{
		{"module A where { f x y x = 1 }", "?11 A x"}, {"module A where { f x y y x = 1 }", "?11 A y"}, {"module A where { f ( x , x ) = 1 }", "?11 A x"}, {"module A where { f [ x , x ] = 1 }", "?11 A x"}, {"module A where { f ( x : x ) = 1 }", "?11 A x"}, {"module A where { f x @ x = 1 }", "?11 A x"}, {"module A where { f x @ ( y : x ) = 1 }", "?11 A x"}, {"module A where { f ~ x ! x = 1 }", "?11 A x"}, {"module A where { f x @ y y @ x = 1 }", "?11 A y"}, {"module A where { f ( ( x , y ) , ( y , x ) ) = 1 }", "?11 A y"}, {"module A where { f y @ _ x @ y = 1 }", "?11 A y"},
		{"module A where { f = ( \\ x x -> 1 ) }", "?11 A x"}, {"module A where { f = ( case 1 of { ( x , x ) -> 1 } ) }", "?11 A x"}, {"module A where { f = ( case 1 of { x -> 1 ; ( x , x ) -> 1 } ) }", "?11 A x"}, {"module A where { f = [ 1 | ( x , x ) <- [ ] ] }", "?11 A x"}, {"module A where { f = 1 where { g x x = 1 } }", "?11 A x"}, {"module A where { f = ( let { g x x = 1 } in 1 ) }", "?11 A x"}, {"module A where { class K a where { m :: a } ; instance K Int where { m x x = 1 } }", "?11 A x"},
		{"module A where { f x = ( \\ x -> x ) ; g x = x ; h x = x where { k x = x } }", "A.f x = ( \\ x -> x ) ; A.g x = x ; A.h x = x where { k x = x }"}, {"module A where { f = [ x | x <- [ ] , x <- x ] }", "A.f = [ x | x <- [ ] , x <- x ]"}, {"module A where { f _ _ = 1 ; g x = ( case x of { x -> x } ) }", "A.f _ _ = 1 ; A.g x = ( case x of { x -> x } )"}, {"module A where { f x = x where { x = 1 } }", "A.f x = x where { x = 1 }"}, {"module A where { f f = f }", "A.f f = f"}, {"module A where { f x = 1 ; f x = 2 }", "A.f x = 1 ; A.f x = 2"},
	})
}

func TestBlocksAtOdds(t *testing.T) {
	checkResolved(t, [][2]string{
		{"module A where { x :: Int }", "?12 A x"}, {"module A where { x , y :: Int ; x = 1 }", "?12 A y"}, {"module A where { y , x :: Int ; x = 1 }", "?12 A y"}, {"module A where { class K a where { x :: a } ; x :: Int }", "?12 A x"}, {"module A where { import B ; x :: Int } module B where { x = 1 }", "?12 A x"}, {"module A where { f x = 1 ; f = 2 }", "?12 A f"}, {"module A where { f = 1 ; f x = 2 }", "?12 A f"}, {"module A where { f x = 1 ; f x = 2 ; f x y = 3 }", "?12 A f"}, {"module A where { g x = 1 ; g y = 1 ; f x = 1 ; f = 2 }", "?12 A f"},
		{"module A where { f = 1 where { x :: Int } }", "?12 A x"}, {"module A where { f = 1 where { x :: Int ; x :: Int ; x = 1 } }", "?12 A x"}, {"module A where { f = 1 where { x , x :: Int ; x = 1 } }", "?12 A x"}, {"module A where { f = 1 where { x = 1 ; y = 2 ; x = 3 } }", "?12 A x"}, {"module A where { f = 1 where { x = 1 ; x y = 3 } }", "?12 A x"}, {"module A where { f = 1 where { x = 1 ; x :: Int ; x = 3 } }", "?12 A x"}, {"module A where { f = 1 where { x = 1 ; infix 3 + ; x = 3 } }", "?12 A x"}, {"module A where { f = 1 where { x = 1 ; y = 2 ; z = 3 ; y = 3 ; x = 4 } }", "?12 A y"},
		{"module A where { f = ( let { x :: Int } in 1 ) }", "?12 A x"}, {"module A where { f = ( let { (+) x = 1 ; (+) = 2 } in 1 ) }", "?12 A +"}, {"module A where { f x = ( let { x :: Int } in 1 ) }", "?12 A x"}, {"module A where { x = ( let { x :: Int } in 1 ) }", "?12 A x"}, {"module A where { f = ( case 1 of { x -> 2 where { y :: Int } } ) }", "?12 A y"}, {"module A where { f = 1 where { x = 2 where { y :: Int } ; y = 1 } }", "?12 A y"}, {"module A where { f = 1 where { y :: Int ; x = 2 where { y = 1 } } }", "?12 A y"},
		{"module A where { class K a where { m , n :: a } ; instance K Int where { m = 1 ; n = 2 ; m = 3 } }", "?12 A m"}, {"module A where { class K a where { m , n :: a } ; instance K Int where { m = 1 ; m x = 2 ; n = 3 } }", "?12 A m"}, {"module A where { class K a where { m , n :: a } ; instance K Int where { n = 1 ; m = 1 } ; m' = 1 }", "class A.K a where { A.m , A.n :: a } ; instance A.K Int where { A.n = 1 ; A.m = 1 } ; A.m' = 1"},
		{"module A where { f = 1 where { f x = 1 ; f = 2 ; y :: Int } }", "?12 A y"}, {"module A where { f = 1 where { y :: Int ; z :: Int ; z :: Int ; z = 1 } }", "?12 A y"}, {"module A where { f = 1 where { z :: Int ; z :: Int ; y :: Int ; z = 1 } }", "?12 A z"}, {"module A where { f x = 1 ; f = 2 ; y :: Int }", "?12 A y"}, {"module A where { f = 1 where { y = 1 ; y x = 2 ; z = 1 ; y = 3 } }", "?12 A y"}, {"module A where { f = 1 where { z = 1 ; y = 1 ; z = 2 ; y x = 3 } }", "?12 A z"}, {"module A where { f = 1 where { z = 1 ; y = 1 ; y x = 3 ; z = 2 } }", "?12 A y"},
		{"module A where { f :: Int ; f = x where { x :: Int ; x = 1 ; y , z :: Int ; z = 2 ; y = 3 } }", "A.f :: Int ; A.f = x where { x :: Int ; x = 1 ; y , z :: Int ; z = 2 ; y = 3 }"}, {"module A where { f = x where { x = 1 ; x = 2 } ; g = ( let { } in 1 ) }", "A.f = x where { x = 1 ; x = 2 } ; A.g = ( let { } in 1 )"},
	})
}

func TestWhatIsNotDerivable(t *testing.T) {
	const three = "class Eq a where { (==) :: a } ; class Ord a where { (<=) :: a } ; class Show a where { show :: a }"
	checkResolved(t, [][2]string{
		{"module A where { class Eq a where { e :: a } ; data D = D deriving ( Eq ) }", "?13 A Eq"}, {"module A where { class Eq a where { (<=) :: a ; show :: a } ; data D = D deriving ( Eq ) }", "?13 A Eq"}, {"module A where { class Ord a where { (==) :: a } ; data D = D deriving ( Ord ) }", "?13 A Ord"}, {"module A where { class Show a where { } ; data D = D deriving ( Show ) }", "?13 A Show"}, {"module A where { class Show a where { shown :: a } ; show = 1 ; data D = D deriving ( Show ) }", "?13 A Show"}, {"module A where { class Num a where { show :: a } ; data D = D deriving ( Num ) }", "?13 A Num"}, {"module A where { data D = D deriving ( D ) }", "?13 A D"}, {"module A where { data Eq = P ; data D = D deriving ( Eq ) }", "?13 A Eq"}, {"module A where { data D = D deriving ( Int ) }", "?13 A Int"}, {"module A where { class Eq a where { } ; class K a where { (==) :: a } ; data D = D deriving ( Eq ) }", "?13 A Eq"},
		{"module A where { import B ; data D = D deriving ( Eq ) } module B where { class Eq a where { } }", "?13 A Eq"}, {"module A where { import B ; data D = D deriving ( Eq , Ord ) } module B where { class Ord a where { } ; class Eq a where { (==) :: a } }", "?13 A Ord"}, {"module A where { import B ( (==) ) ; class Eq a where { } ; data D = D deriving ( Eq ) } module B where { class Eq a where { (==) :: a } }", "?13 A Eq"}, {"module A where { data D = D deriving ( Ord , Eq ) ; class Ord a where { } ; class Eq a where { } }", "?13 A Ord"}, {"module A where { data D = D deriving ( Z , Eq ) ; class Eq a where { } }", "?9 A Z"}, {"module A where { data D = D deriving ( Eq , Z ) ; class Eq a where { } }", "?13 A Eq"}, {"module A where { data D = D Z deriving ( Eq ) ; class Eq a where { } }", "?9 A Z"},
		{"module A where { " + three + " ; data D = D }", "class A.Eq a where { A.== :: a } ; class A.Ord a where { A.<= :: a } ; class A.Show a where { A.show :: a } ; data A.D = A.D"},
	})
	item := tree(impl.DNames, "", tree(impl.DItem, "x"))
	data := tree(impl.DData, "D", tree(impl.DNames, ""), tree(impl.DConstr, "C"), item)
	if got := checkProgram(t, []impl.Node{tree(impl.DModule, "A", tree(impl.DNames, "all"), data, tree(impl.DClause, "x", tree(impl.NRhs, "", tree(impl.NNum, "1"))))}); programText(got) != "?9 A x" {
		t.Errorf("deriving of a value is %s", programText(got))
	}
}

// The walk through a module, place by place: the first fault is told, whichever it is.
func TestWalkOrder(t *testing.T) {
	const known = " ; class Eq a where { (==) :: a } ; class K a where { m , n :: a } }"
	for _, row := range [][2]string{ // in a row each part that is put in for one of 1 2 3 .. is a fault, and they have to be met in this order
		{"x = 1 ; y = 2 ; z = 3", "p q r"}, {"x | 2 = 3 | 4 = 5 where { y = 1 }", "p q r s t"}, {"x = ( 1 2 3 )", "p q r"}, {"x = ( if 1 then 2 else 3 )", "p q r"}, {"x = [ 1 .. 2 ]", "p q"}, {"x = [ 4 | y <- 1 , 2 , z <- 3 ]", "p q r s"}, {"x = ( case 1 of { y | 3 -> 4 where { z = 2 } ; w -> 5 } )", "p q r s t"}, {"x = ( let { y = 1 ; z = 2 } in 3 )", "p q r"}, {"x = [ 1 , ( 2 , 3 ) ]", "p q r"}, {"x = ( \\ y -> 1 ) 2", "p q"},
		{"x = ( 2 `1` )", "p q"}, {"x = ( `1` 2 )", "p q"}, {"x = 2 `1` 3", "p q r"}, {"x = - 1", "p"}, {"instance K Int where { m = 1 ; n = 2 }", "p q"},
	} {
		faults := []string{"p", "q", "r", "s", "t"}[:len(row[1])/2+1]
		for bad := range len(faults) {
			text := row[0]
			for i := range faults {
				put := faults[i]
				if i < bad {
					put = "negate"
				}
				text = replaceDigit(text, i+1, put)
			}
			checkResolved(t, [][2]string{{"module A where { " + text + known, "?9 A " + faults[bad]}})
		}
	}
	checkResolved(t, [][2]string{
		{"module A where { x :: K1 a => T1 ; x = 1" + known, "?9 A K1"}, {"module A where { x :: K a => T1 -> T2 ; x = 1" + known, "?9 A T1"}, {"module A where { x :: K a => Int -> T2 ; x = 1" + known, "?9 A T2"}, {"module A where { instance K1 a => K2 T1 where { m1 = p }" + known, "?9 A K1"}, {"module A where { instance K a => K2 T1 where { m1 = p }" + known, "?9 A K2"}, {"module A where { instance K a => K T1 where { m1 = p }" + known, "?9 A T1"}, {"module A where { instance K a => K Int where { m1 P = p }" + known, "?9 A m1"}, {"module A where { instance K a => K Int where { m P = p ; m1 = q }" + known, "?9 A P"}, {"module A where { instance K a => K Int where { m x x = 1 ; m1 = 1 ; m = 1 }" + known, "?12 A m"}, {"module A where { instance K a => K T1 where { m = 1 ; n = 2 ; m = 3 }" + known, "?9 A T1"}, {"module A where { instance K Int where { m1 x x = 1 }" + known, "?9 A m1"},
		{"module A where { data T = P T1 T2 | Q T3 deriving ( D )" + known, "?9 A T1"}, {"module A where { data T = P Int T2 | Q T3 deriving ( D )" + known, "?9 A T2"}, {"module A where { data T = P Int | Q T3 deriving ( D )" + known, "?9 A T3"}, {"module A where { data T = P Int | Q deriving ( D , K )" + known, "?9 A D"}, {"module A where { data T = P deriving ( Eq , K , D )" + known, "?13 A K"}, {"module A where { class K1 a => K2 a where { f :: T1 } ; class K3 b => K4 b where { }" + known, "?9 A K1"}, {"module A where { class K a => K2 a where { f :: T1 ; g :: T2 } ; class K3 b => K4 b where { }" + known, "?9 A T1"}, {"module A where { class K2 a where { f :: T2 -> K3 ; g :: T3 }" + known, "?9 A T2"},
		{"module A where { f P x x = p" + known, "?11 A x"}, {"module A where { f P Q = p" + known, "?9 A P"}, {"module A where { f ( Q P ) = p" + known, "?9 A Q"}, {"module A where { f = ( \\ P x x -> p )" + known, "?11 A x"}, {"module A where { f = ( \\ P -> p )" + known, "?9 A P"}, {"module A where { f = [ p | ( P , x , x ) <- q ]" + known, "?11 A x"}, {"module A where { f = [ p | P <- q ]" + known, "?9 A P"}, {"module A where { f = ( case q of { ( P , x , x ) -> p } )" + known, "?9 A q"}, {"module A where { f = ( case 1 of { ( P , x , x ) -> p } )" + known, "?11 A x"}, {"module A where { f = ( case 1 of { P -> p } )" + known, "?9 A P"},
		{"module A where { f x x = p where { y :: Int }" + known, "?11 A x"}, {"module A where { f P = p where { y :: Int }" + known, "?9 A P"}, {"module A where { f | p = q where { y :: Int ; z = r }" + known, "?12 A y"}, {"module A where { f | p = q where { z P x x = r ; w :: Int ; w = 1 }" + known, "?11 A x"}, {"module A where { f = ( let { y = p ; z :: Int } in q )" + known, "?12 A z"}, {"module A where { f = 1 + p where { y x x = 1 ; z :: Int } ; g y y = 1" + known, "?12 A z"}, {"module A where { f = p where { z = 1 where { y :: Int } ; v x x = 1 }" + known, "?12 A y"}, {"module A where { f = p where { v x x = 1 ; z = 1 where { y :: Int } }" + known, "?11 A x"}, {"module A where { x = p ; g y y = 1 ; h = 1 where { z :: Int } ; data T = P deriving ( K )" + known, "?9 A p"}, {"module A where { g y y = 1 ; x = p ; h = 1 where { z :: Int } ; data T = P deriving ( K )" + known, "?11 A y"}, {"module A where { h = 1 where { z :: Int } ; g y y = 1 ; x = p ; data T = P deriving ( K )" + known, "?12 A z"}, {"module A where { data T = P deriving ( K ) ; h = 1 where { z :: Int } ; g y y = 1 ; x = p" + known, "?13 A K"}, {"module A where { data T = P deriving ( K ) ; q :: Int ; h = 1 where { z :: Int } ; g y y = 1 ; x = p" + known, "?12 A q"},
		{"module A where { f = 1 where { x :: T1 ; x = p ; y :: T2 ; y = q }" + known, "?9 A T1"}, {"module A where { f = 1 where { x :: Int ; x = p ; y :: T2 ; y = q }" + known, "?9 A p"}, {"module A where { f = ( 1 `P` ) ; g = p" + known, "?9 A P"},
	})
}

func replaceDigit(text string, digit int, put string) string {
	at := slices.Index([]byte(text), byte('0'+digit))
	return text[:at] + put + text[at+1:]
}
