package tests

import (
	"slices"
	"strings"
	"testing"

	"loop.example/g00017/impl"
)

func TestBuiltinNames(t *testing.T) {
	want := strings.Fields("primAdd primSub primMul primDiv primMod primEq primLess primOrd primChr primShow primAppend primSeq primError negate")
	got := impl.BuiltinNames()
	if !slices.Equal(got, want) {
		t.Errorf("%v", got)
	}
	clear(got)
	got = append(got[:1], "more")
	if !slices.Equal(impl.BuiltinNames(), want) {
		t.Errorf("%v behind a change", impl.BuiltinNames())
	}
	var uses, after []string
	for _, name := range want {
		uses, after = append(uses, "v"+name+" = "+name), append(after, "A.v"+name+" = "+name)
	}
	checkResolved(t, [][2]string{
		{"module A where { " + strings.Join(uses, ";") + " }", strings.Join(after, " ; ")}, {"module A where { f :: Int -> Char -> Bool ; f ( False : True ) = [ False , True , [ ] ] ; g = (:) ; h = 1 : [ ] }", "A.f :: Int -> ( Char -> Bool ) ; A.f ( ( : ) False True ) = [ False , True , [ ] ] ; A.g = ( : ) ; A.h = ( ( : ) 1 [ ] )"}, {"module A where { f ( ) = ( ) ; g :: ( ) -> ( a , [ b ] ) ; g = \"Int\" 'c' }", "A.f ( ) = ( ) ; A.g :: ( ) -> ( a , [ b ] ) ; A.g = ( \"Int\" 'c' )"},
	})
}

// What is bound or defined nearest around a name is what it stands for.
func TestScopes(t *testing.T) {
	checkResolved(t, [][2]string{
		{"module A where { x = x ; f y = x y g ; g = f }", "A.x = A.x ; A.f y = ( A.x y A.g ) ; A.g = A.f"}, {"module A where { f x y = ( \\ x -> x y f ) ; x = 1 }", "A.f x y = ( \\ x -> ( x y A.f ) ) ; A.x = 1"}, {"module A where { f f = f ; x = f }", "A.f f = f ; A.x = A.f"}, {"module A where { f x @ ( y : z ) ~ w ! v = [ x , y , z , w , v ] }", "A.f ( x @ ( ( : ) y z ) ) ( ~ w ) ( ! v ) = [ x , y , z , w , v ]"},
		{"module A where { f = x y where { x = y f ; y = x } ; x = 1 ; y = 2 }", "A.f = ( x y ) where { x = ( y A.f ) ; y = x } ; A.x = 1 ; A.y = 2"}, {"module A where { f x | x = y | y = x where { y = x } }", "A.f x | x = y | y = x where { y = x }"}, {"module A where { f x = x where { x = y where { y = x } } ; y = f }", "A.f x = x where { x = y where { y = x } } ; A.y = A.f"}, {"module A where { f = g where { f = g ; g = f } }", "A.f = g where { f = g ; g = f }"}, {"module A where { f = ( let { x = 1 ; g x = x } in x g ) ; x = 2 ; g = x }", "A.f = ( let { x = 1 ; g x = x } in ( x g ) ) ; A.x = 2 ; A.g = A.x"}, {"module A where { f = [ ( let { x = 1 } in x ) , x ] ; x = 2 }", "A.f = [ ( let { x = 1 } in x ) , A.x ] ; A.x = 2"}, {"module A where { f = ( let { x = 1 } in ( let { x = x } in x ) ) x ; x = 2 }", "A.f = ( ( let { x = 1 } in ( let { x = x } in x ) ) A.x ) ; A.x = 2"},
		{"module A where { f = ( \\ x -> x ) x ; x = 1 }", "A.f = ( ( \\ x -> x ) A.x ) ; A.x = 1"}, {"module A where { f = ( \\ x y -> ( \\ y -> x y ) y ) x y ; x = y ; y = 1 }", "A.f = ( ( \\ x y -> ( ( \\ y -> ( x y ) ) y ) ) A.x A.y ) ; A.x = A.y ; A.y = 1"}, {"module A where { f = ( case x of { x -> x ; [ y ] | y -> x where { z = y } } ) ; x = 1 }", "A.f = ( case A.x of { x -> x ; [ y ] | y -> A.x where { z = y } } ) ; A.x = 1"}, {"module A where { f = [ x y | x <- x , y <- x , x y , x <- y ] x ; x = y ; y = 1 }", "A.f = ( [ ( x y ) | x <- A.x , y <- x , ( x y ) , x <- y ] A.x ) ; A.x = A.y ; A.y = 1"}, {"module A where { f = [ x | x , ( x , y ) <- y , y ] ; x = y ; y = 1 }", "A.f = [ x | A.x , ( x , y ) <- A.y , y ] ; A.x = A.y ; A.y = 1"}, {"module A where { f = [ [ x | x <- x ] | x <- [ x | x <- x ] ] ; x = 1 }", "A.f = [ [ x | x <- x ] | x <- [ x | x <- A.x ] ] ; A.x = 1"},
		{"module A where { f = ( let { (+) = 1 } in 1 + ( + 2 ) ( 3 + ) (+) ) ; x + y = x }", "A.f = ( let { ( + ) = 1 } in ( ( + ) 1 ( ( \\ s' -> ( ( + ) s' 2 ) ) ( ( + ) 3 ) ( + ) ) ) ) ; A.+ x y = x"}, {"module A where { f x = x where { y :: Int -> a ; y = 1 ; infixl 3 `y` } }", "A.f x = x where { y :: Int -> a ; y = 1 }"}, {"module A where { f = ( let { infix 3 `x` , + } in 1 ) }", "A.f = ( let { } in 1 )"}, {"module A where { f x = 1 where { infix 3 + } }", "A.f x = 1"}, {"module A where { f x = x ; f y = y ; f z = x ; x = 1 }", "A.f x = x ; A.f y = y ; A.f z = A.x ; A.x = 1"}, {"module A where { f = - x - 1 ; (-) = primSub ; x = 1 }", "A.f = ( A.- ( negate A.x ) 1 ) ; A.- = primSub ; A.x = 1"}, {"module A where { f x | 1 = 2 where { g x = x ; g y = x } }", "A.f x | 1 = 2 where { g x = x ; g y = x }"},
	})
}

func TestDeclarations(t *testing.T) {
	checkResolved(t, [][2]string{
		{"module A where { import B ; infixl 6 + ; x :: T -> a ; x = 1 ; data T = P a T | Q ; class K a where { m :: T -> a ; n , (+) :: K b => b } ; instance K T where { m x = x ; n = m ; _ + x = x } } module B where { }", "A.x :: A.T -> a ; A.x = 1 ; data A.T = A.P a A.T | A.Q ; class A.K a where { A.m :: A.T -> a ; A.n , A.+ :: ( A.K b ) => b } ; instance A.K A.T where { A.m x = x ; A.n = A.m ; A.+ _ x = x }"},
		{"module A where { data T a b = P b [ T a b ] ( a -> b , Int ) | Q ( T Int ( T a b ) ) }", "data A.T a b = A.P b [ ( A.T a b ) ] ( ( a -> b ) , Int ) | A.Q ( A.T Int ( A.T a b ) )"}, {"module A where { class ( L a , K b ) => K a where { m :: ( L b , K a ) => a b -> c } ; class L a where { } ; instance ( L a , K b ) => K ( a , b ) where { m = m } }", "class ( A.L a , A.K b ) => A.K a where { A.m :: ( A.L b , A.K a ) => ( a b ) -> c } ; class A.L a where { } ; instance ( A.L a , A.K b ) => A.K ( a , b ) where { A.m = A.m }"}, {"module A where { x , y , (+) :: T ; data T = P ; x = 1 ; y = 2 ; (+) = 3 }", "A.x , A.y , A.+ :: A.T ; data A.T = A.P ; A.x = 1 ; A.y = 2 ; A.+ = 3"},
		{"module A where { class K a where { m :: a } ; instance K Int where { negate = 1 ; f x = f } ; f = 1 }", "class A.K a where { A.m :: a } ; instance A.K Int where { negate = 1 ; A.f x = A.f } ; A.f = 1"}, {"module A where { import B ; instance K Int where { m = 1 } } module B where { class K a where { m :: a } }", "class B.K a where { B.m :: a } ; instance B.K Int where { B.m = 1 }"}, {"module A where { class K a where { m :: a } ; instance K Int where { m = m where { n = m ; m = 1 } } ; instance T Bool where { } ; data T = P ; x :: T -> K ; x = 1 }", "class A.K a where { A.m :: a } ; instance A.K Int where { A.m = m where { n = m ; m = 1 } } ; instance A.T Bool where { } ; data A.T = A.P ; A.x :: A.T -> A.K ; A.x = 1"},
		{"module C where { import A ; z = y } module A where { import B ; y = x } module B where { x = 1 }", "B.x = 1 ; A.y = B.x ; C.z = A.y"}, {"module C where { z = 1 } module A where { y = 1 } module B where { x = 1 }", "C.z = 1 ; A.y = 1 ; B.x = 1"}, {"module C where { import B ; z = 1 } module A where { y = 1 } module B where { x = 1 }", "A.y = 1 ; B.x = 1 ; C.z = 1"},
	})
}

func TestImportsAndExports(t *testing.T) {
	const after = "B.g = 1 ; B.h = 2 ; data B.T = B.P | B.Q ; class B.K a where { B.m , B.n :: a } ; "
	const other = " module B where { g = 1 ; h = 2 ; data T = P | Q ; class K a where { m , n :: a } }"
	const few = " module B ( g , T , n ) where { g = 1 ; h = 2 ; data T = P | Q ; class K a where { m , n :: a } }"
	checkResolved(t, [][2]string{
		{"module A where { import B ; x = [ g , h , P , Q , m , n ] ; y :: T -> a ; y = 1 ; instance K T where { m = 1 ; n = 2 } }" + other, after + "A.x = [ B.g , B.h , B.P , B.Q , B.m , B.n ] ; A.y :: B.T -> a ; A.y = 1 ; instance B.K B.T where { B.m = 1 ; B.n = 2 }"}, {"module A where { import B ( T , K ) ; x = [ P , Q , m , n ] ; g = h ; h = g }" + other, after + "A.x = [ B.P , B.Q , B.m , B.n ] ; A.g = A.h ; A.h = A.g"}, {"module A where { import B ( g ) ; import B ( n ) ; x = [ g , n ] ; h = g ; data T = P ; y = P }" + other, after + "A.x = [ B.g , B.n ] ; A.h = B.g ; data A.T = A.P ; A.y = A.P"},
		{"module A where { import B ; x = [ g , P , Q , n ] ; h = 1 ; m = h ; class K a where { k :: a } ; instance K T where { k = m } }" + few, after + "A.x = [ B.g , B.P , B.Q , B.n ] ; A.h = 1 ; A.m = A.h ; class A.K a where { A.k :: a } ; instance A.K B.T where { A.k = A.m }"}, {"module A where { import B ( T ) ; g = P }" + few, after + "A.g = B.P"}, {"module A where { import B ( ) ; g = h ; h = 1 ; data T = P ; m = P }" + other, after + "A.g = A.h ; A.h = 1 ; data A.T = A.P ; A.m = A.P"},
		{"module A where { import B ; import C ; x = g ; y = h } module B where { import C ; g = h } module C where { h = 1 }", "C.h = 1 ; B.g = C.h ; A.x = B.g ; A.y = C.h"}, {"module A where { import B ( (+) , (!) , (~) ) ; x = 1 + 2 ! 3 ~ 4 } module B where { x + y = 1 ; (!) = 2 ; (~) = 3 }", "B.+ x y = 1 ; B.! = 2 ; B.~ = 3 ; A.x = ( B.~ ( B.! ( B.+ 1 2 ) 3 ) 4 )"}, {"module A where { import B ; f ( x `P` Q ) = P } module B where { data T = P T T | Q }", "data B.T = B.P B.T B.T | B.Q ; A.f ( B.P x B.Q ) = B.P"}, {"module A where { import B ; x = T ; y :: P ; y = 1 } module B where { data T = P ; data P = T }", "data B.T = B.P ; data B.P = B.T ; A.x = B.T ; A.y :: B.P ; A.y = 1"}, {"module A where { import B ( P ) ; x = T } module B where { data T = P ; data P = T }", "data B.T = B.P ; data B.P = B.T ; A.x = B.T"},
	})
	// a method may have a constructor's name, if the tree was made by hand: the name alone can neither be exported nor imported
	sig := tree(impl.DSig, "", tree(impl.DNames, "", tree(impl.DItem, "Foo"), tree(impl.DItem, ":+")), tree(impl.DContext, ""), tree(impl.TVar, "a"))
	class := tree(impl.DClass, "K", tree(impl.DContext, ""), tree(impl.TVar, "a"), sig)
	module := func(names ...string) impl.Node {
		exports := tree(impl.DNames, "")
		for _, name := range names {
			exports.Kids = append(exports.Kids, tree(impl.DItem, name))
		}
		return tree(impl.DModule, "A", exports, class)
	}
	for _, row := range []struct {
		module impl.Node
		want   string
	}{{module("K"), "class A.K a where { A.Foo , A.:+ :: a }"}, {module(":+"), "class A.K a where { A.Foo , A.:+ :: a }"}, {module("K", "Foo"), "?6 A Foo"}, {module(":+", ":"), "?6 A :"}} {
		if got := programText(checkProgram(t, []impl.Node{row.module})); got != row.want {
			t.Errorf("%s is %s", kinded(row.module), got)
		}
	}
}

// Fixities come from the modules that are imported, for what they export, behind those of the module itself.
func TestImportedFixities(t *testing.T) {
	const left, right = "A.x = ( ~ ( ~ a b ) c )", "A.x = ( ~ a ( ~ b c ) )"
	for _, row := range [][3]string{ // what is ahead of x = a + b + c in A; the other modules; the order that comes out
		{"import B", "module B where { x + y = x }", left}, {"import B", "module B where { infixr 3 + ; x + y = x }", right}, {"import B ( )", "module B where { infixr 3 + ; x + y = x }", "?9 A +"}, {"import B ( ) ; x + y = y", "module B where { infixr 3 + ; x + y = x }", right}, {"import B ( q ) ; x + y = y", "module B where { infixr 3 + ; x + y = x ; q = 1 }", right}, {"import B ( ) ; x + y = y", "module B ( q ) where { infixr 3 + ; x + y = x ; q = 1 }", left}, {"import B ( ) ; x + y = y", "module B where { infixr 3 + }", left}, {"import B ( ) ; x + y = y", "module B where { infixr 3 + ; class K a where { (+) :: a } }", right}, {"import B ( ) ; x + y = y", "module B ( K ) where { infixr 3 + ; class K a where { (+) :: a } }", right},
		{"import B ; infixl 3 +", "module B where { infixr 3 + ; x + y = x }", left}, {"infixl 3 + ; x + y = y ; import' = 1", "module B where { infixr 3 + ; x + y = x }", left}, {"import B ; import C ( )", "module B where { infixr 3 + ; x + y = x } module C where { infixl 3 + ; x + y = x }", right}, {"import C ( ) ; import B", "module B where { infixr 3 + ; x + y = x } module C where { infixl 3 + ; x + y = x }", left}, {"import C ( ) ; import B", "module B where { infixr 3 + ; x + y = x } module C where { infixl 3 - , * ; x - y = x }", right}, {"import C ( ) ; import B", "module B where { infixr 3 + ; x + y = x } module C ( ) where { infixl 3 + ; x + y = x }", right}, {"import B", "module B where { infixr 3 + ; infixl 4 + ; x + y = x }", right}, {"import B", "module B where { infixl 3 + ; infixr 4 + ; x + y = x }", left}, {"import B", "module B where { f = 1 where { infixr 4 + } ; x + y = x }", left},
		{"import B", "module B where { import C ( ) ; x + y = x } module C where { infixr 3 + ; x + y = x }", left}, {"import B ; import B", "module B where { infixr 3 + ; x + y = x }", right}, {"import B", "module B where { infix 3 + ; x + y = x }", "?8 A +"}, {"import B ; infixl 9 +", "module B where { infix 3 + ; x + y = x }", left}, {"(+) = 1", "module B where { infixr 3 + ; x + y = x }", left},
	} {
		text := "module A where { " + row[0] + " ; x = a + b + c ; a = 1 ; b = 2 ; c = 3 } " + row[1]
		got := programText(checkProgram(t, modulesOf(t, text)))
		if at := strings.Index(got, "A.x = "); at >= 0 {
			got = got[at:strings.Index(got, " ; A.a")]
		}
		got = strings.NewReplacer("A.+", "~", "B.+", "~", "C.+", "~", "A.a", "a", "A.b", "b", "A.c", "c").Replace(got)
		if got != row[2] {
			t.Errorf("%s\nis %s, not %s", text, got, row[2])
		}
	}
	checkResolved(t, [][2]string{
		{"module A where { import B ; f ( x `P` y `P` z ) = 1 } module B where { infixr 3 `P` ; data T = P T T }", "data B.T = B.P B.T B.T ; A.f ( B.P x ( B.P y z ) ) = 1"}, {"module A where { import B ( ) ; f ( x `P` y `P` z ) = 1 ; data T = P T T } module B ( q ) where { infixr 3 `P` ; data T = P T T ; q = 1 }", "data B.T = B.P B.T B.T ; B.q = 1 ; A.f ( A.P ( A.P x y ) z ) = 1 ; data A.T = A.P A.T A.T"}, {"module A where { import B ; x = 1 : 2 : [ ] } module B where { infixl 3 : }", "A.x = ( ( : ) 1 ( ( : ) 2 [ ] ) )"}, {"module A where { import B ; x = 1 `primAdd` 2 `primAdd` 3 } module B where { infixr 3 `primAdd` }", "A.x = ( primAdd ( primAdd 1 2 ) 3 )"}, {"module A where { import B ; f ( x `T` y `T` z ) = 1 ; data U = T U U } module B where { infixr 3 `T` ; data T = P }", "data B.T = B.P ; A.f ( A.T ( A.T x y ) z ) = 1 ; data A.U = A.T A.U A.U"},
	})
}

func TestSections(t *testing.T) {
	const known = " ; x + y = x ; data T = P T T ; f = 1 ; s = f ; z s' s'' = "
	check := func(exp, want string) {
		t.Helper()
		got := programText(checkProgram(t, modulesOf(t, "module A where { q = 1"+known+exp+" }")))
		if got = got[strings.LastIndex(got, " = ")+3:]; got != want {
			t.Errorf("%s is %s, not %s", exp, got, want)
		}
	}
	for _, row := range [][2]string{
		{"( 1 + )", "( A.+ 1 )"}, {"( + 1 )", "( \\ s' -> ( A.+ s' 1 ) )"}, {"( `f` 1 )", "( \\ s' -> ( A.f s' 1 ) )"}, {"( 1 `f` )", "( A.f 1 )"}, {"( 1 : )", "( ( : ) 1 )"}, {"( : 1 )", "( \\ s' -> ( ( : ) s' 1 ) )"}, {"( 1 `P` )", "( A.P 1 )"}, {"( `P` 1 )", "( \\ s' -> ( A.P s' 1 ) )"}, {"( f 1 + )", "( A.+ ( A.f 1 ) )"},
		{"( + s )", "( \\ s' -> ( A.+ s' A.s ) )"}, {"( + s' )", "( \\ s'' -> ( A.+ s'' s' ) )"}, {"( + s'' )", "( \\ s' -> ( A.+ s' s'' ) )"}, {"( + ( s' s'' ) )", "( \\ s''' -> ( A.+ s''' ( s' s'' ) ) )"}, {"( `s'` 1 )", "( \\ s'' -> ( s' s'' 1 ) )"}, {"( `s'` s'' )", "( \\ s''' -> ( s' s''' s'' ) )"}, {"( `s''` s' )", "( \\ s''' -> ( s'' s''' s' ) )"}, {"( `s''` 1 )", "( \\ s' -> ( s'' s' 1 ) )"}, {"( s' `s'` )", "( s' s' )"},
		{"( + ( + 1 ) )", "( \\ s' -> ( A.+ s' ( \\ s' -> ( A.+ s' 1 ) ) ) )"}, {"( + ( + s' ) )", "( \\ s'' -> ( A.+ s'' ( \\ s'' -> ( A.+ s'' s' ) ) ) )"}, {"( + ( `s'` 1 ) )", "( \\ s'' -> ( A.+ s'' ( \\ s'' -> ( s' s'' 1 ) ) ) )"}, {"( + ( s' + ) )", "( \\ s'' -> ( A.+ s'' ( A.+ s' ) ) )"}, {"( ( + 1 ) + )", "( A.+ ( \\ s' -> ( A.+ s' 1 ) ) )"}, {"( ( 1 + ) + )", "( A.+ ( A.+ 1 ) )"}, {"( + \"s'\" )", "( \\ s'' -> ( A.+ s'' \"s'\" ) )"}, {"( + ( \\ s' -> 1 ) )", "( \\ s'' -> ( A.+ s'' ( \\ s' -> 1 ) ) )"}, {"( + ( \\ s' @ _ -> 1 ) )", "( \\ s'' -> ( A.+ s'' ( \\ ( s' @ _ ) -> 1 ) ) )"},
		{"( + 1 + 2 )", "( \\ s' -> ( A.+ s' ( A.+ 1 2 ) ) )"}, {"( + f ( - 1 ) )", "( \\ s' -> ( A.+ s' ( A.f ( negate 1 ) ) ) )"}, {"( - 1 + )", "( A.+ ( negate 1 ) )"}, {"[ ( + 1 ) | w <- [ ( 1 + ) ] , ( + w ) ]", "[ ( \\ s' -> ( A.+ s' 1 ) ) | w <- [ ( A.+ 1 ) ] , ( \\ s' -> ( A.+ s' w ) ) ]"},
	} {
		check(row[0], row[1])
	}
	// names of all sorts of nodes count: in types, signatures and fixities of blocks too, though these are gone
	for _, row := range [][2]string{
		{"( + ( let { w :: s' ; w", "let { w :: s' ; w = 1 } in 1"}, {"( + ( let { s' , w :: s'' ; s' = 1 ; w", "let { s' , w :: s'' ; s' = 1 ; w = 1 } in 1"}, {"( + ( let { infix 3 `s'` ; w", "let { w = 1 } in 1"}, {"( + ( let { infix 3 + , `s''` ; w :: s'; w", "let { w :: s' ; w = 1 } in 1"},
	} {
		got := programText(checkProgram(t, modulesOf(t, "module A where { x + y = x ; z = "+row[0]+" = 1 } in 1 ) ) }")))
		v := "s''"
		if strings.Contains(row[0], "s''") {
			v = "s'''"
		}
		if want := "A.+ x y = x ; A.z = ( \\ " + v + " -> ( A.+ " + v + " ( " + row[1] + " ) ) )"; got != want {
			t.Errorf("%s is %s, not %s", row[0], got, want)
		}
	}
}
