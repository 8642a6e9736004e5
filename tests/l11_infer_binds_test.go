package tests

import (
	"testing"
)

func TestThingsTakeAndPassDictionaries(t *testing.T) {
	checkBinds(t, eqAhead, [][2]string{
		{"f x = x", "f x = x"},
		{"f x = f x", "f x = ( f x )"},
		{"f x = x == x", "f #1.1 x = ( ( == #1.1 ) x x )"},
		{"f = 1 == 2", "f = ( ( == inst:Eq:Int ) 1 2 )"},
		{"f = [ 1 ] == [ ]", "f = ( ( == ( inst:Eq:[] inst:Eq:Int ) ) [ 1 ] [ ] )"},
		{"f x y = [ x ] == y", "f #1.1 x y = ( ( == ( inst:Eq:[] #1.1 ) ) [ x ] y )"},
		{"f x y = ( x , [ y ] ) == ( x , [ y ] )", "f #1.1 #1.2 x y = ( ( == ( inst:Eq:(,) ( inst:Eq:[] #1.1 ) #1.2 ) ) ( x , [ y ] ) ( x , [ y ] ) )"},
		{"f 1 x = x == x ; f y _ = y == y", "f #1.1 1 x = ( ( == #1.1 ) x x ) ; f #1.1 y _ = ( ( == inst:Eq:Int ) y y )"},
		{"f x = g x ; g x = x == x", "f #1.1 x = ( ( g #1.1 ) x ) ; g #1.1 x = ( ( == #1.1 ) x x )"},
		{"f x = g [ x ] ; g x = x == x", "f #1.1 x = ( ( g ( inst:Eq:[] #1.1 ) ) [ x ] ) ; g #1.1 x = ( ( == #1.1 ) x x )"},
		{"f x = if x == x then g x else True ; g y = f y", "f #1.1 x = ( if ( ( == #1.1 ) x x ) then ( ( g #1.1 ) x ) else True ) ; g #1.1 y = ( ( f #1.1 ) y )"},
		{"f x y = if g x y then x <= x else y == y ; g x y = f x y", "f #1.1 #1.2 x y = ( if ( ( g #1.1 #1.2 ) x y ) then ( ( <= #1.1 ) x x ) else ( ( == #1.2 ) y y ) ) ; g #1.1 #1.2 x y = ( ( f #1.1 #1.2 ) x y )"},
		{"f x = ( x == x , x <= x )", "f #1.1 x = ( ( ( == ( super:Ord:Eq #1.1 ) ) x x ) , ( ( <= #1.1 ) x x ) )"},
		{"f x = ( x == x , [ x ] == [ ] , x <= x )", "f #1.1 x = ( ( ( == ( super:Ord:Eq #1.1 ) ) x x ) , ( ( == ( inst:Eq:[] ( super:Ord:Eq #1.1 ) ) ) [ x ] [ ] ) , ( ( <= #1.1 ) x x ) )"},
		{"f x | x == x = [ y | y <- x , y == y ]", "f #1.1 x | ( ( == ( inst:Eq:[] #1.1 ) ) x x ) = [ y | y <- x , ( ( == #1.1 ) y y ) ]"},
		{"f x = case x of { y | y == y -> 1 ; _ -> 2 }", "f #1.1 x = ( case x of { y | ( ( == #1.1 ) y y ) -> 1 ; _ -> 2 } )"},
		{"f = \\ x -> if x == x then 1 else x", "f = ( \\ x -> ( if ( ( == inst:Eq:Int ) x x ) then 1 else x ) )"},
		{"f x = (== x)", "f #1.1 x = ( \\ s' -> ( ( == #1.1 ) s' x ) )"},
		{"f x = ( (==) , x ) ; g y = f", "f #1.1 x = ( ( == #1.1 ) , x ) ; g #1.1 y = ( f #1.1 )"},
	})
}

func TestThingsOfBlocksTakeAndPassDictionaries(t *testing.T) {
	checkBinds(t, eqAhead, [][2]string{
		{"f x = let { g y = y == y } in g x", "f #1.1 x = ( let { g #2.1 y = ( ( == #2.1 ) y y ) } in ( ( g #1.1 ) x ) )"},
		{"f x = let { g y = y == x } in g x", "f #1.1 x = ( let { g y = ( ( == #1.1 ) y x ) } in ( g x ) )"},
		{"f x = g x where { g y = if y == y then g y else x == x }", "f #1.1 x = ( ( g #1.1 ) x ) where { g #2.1 y = ( if ( ( == #2.1 ) y y ) then ( ( g #2.1 ) y ) else ( ( == #1.1 ) x x ) ) }"},
		{"f x = let { g y = let { h z = ( x == x , y == y , z == z ) } in h } in g 1 [ x ]", "f #1.1 x = ( let { g #2.1 #2.2 y = ( let { h #3.1 z = ( ( ( == #1.1 ) x x ) , ( ( == #2.1 ) y y ) , ( ( == #3.1 ) z z ) ) } in ( h #2.2 ) ) } in ( ( g inst:Eq:Int ( inst:Eq:[] #1.1 ) ) 1 [ x ] ) )"},
		{"f = let { g y = y == y } in g 1", "f = ( let { g #2.1 y = ( ( == #2.1 ) y y ) } in ( ( g inst:Eq:Int ) 1 ) )"},
		{"f = let { g = \\ y -> y == y } in g 1", "f = ( let { g = ( \\ y -> ( ( == inst:Eq:Int ) y y ) ) } in ( g 1 ) )"},
		{"f x = let { g = \\ y -> y == y } in g [ x ]", "f #1.1 x = ( let { g = ( \\ y -> ( ( == ( inst:Eq:[] #1.1 ) ) y y ) ) } in ( g [ x ] ) )"},
		{"f x = case x of { y -> g y where { g z = z == z } }", "f #1.1 x = ( case x of { y -> ( ( g #1.1 ) y ) where { g #2.1 z = ( ( == #2.1 ) z z ) } } )"},
		{"f x = ( \\ y -> let { g z = z == z } in g y ) x", "f #1.1 x = ( ( \\ y -> ( let { g #2.1 z = ( ( == #2.1 ) z z ) } in ( ( g #1.1 ) y ) ) ) x )"},
		{"f x = let { g y = f y ; h z = f x } in x == x", "f #1.1 x = ( let { g y = ( ( f #1.1 ) y ) ; h z = ( ( f #1.1 ) x ) } in ( ( == #1.1 ) x x ) )"},
		{"f x = let { g :: Ord a => a -> Bool ; g y = y == y } in g 1", "f x = ( let { g #2.1 y = ( ( == ( super:Ord:Eq #2.1 ) ) y y ) } in ( ( g inst:Ord:Int ) 1 ) )"},
		{"f x = g y where { z = x == y ; y = x ; g w = ( w <= w , z ) }", "f #1.1 x = ( ( g #1.1 ) y ) where { z = ( ( == ( super:Ord:Eq #1.1 ) ) x y ) ; y = x ; g #2.1 w = ( ( ( <= #2.1 ) w w ) , z ) }"},
		{"f x = let { } in x == x", "f #1.1 x = ( let { } in ( ( == #1.1 ) x x ) )"},
	})
}

func TestSignaturesMeetNeeds(t *testing.T) {
	// From A there are two ways to E of two steps, by B, which is named first, and by C; to F there are two as well, by C and by D, and a longer one by B.
	const ahead = "class F a where { f0 :: a -> a } ; class F a => E a where { e0 :: a -> a } ; class E a => B a where { b0 :: a -> a } ; class ( F a , E a ) => C a where { c0 :: a -> a } ; class F a => D a where { d0 :: a -> a } ; class ( B a , C a , D a ) => A a where { a0 :: a -> a } ; class A a => Z a where { z0 :: a -> a } ; instance ( D a , E a ) => F [ a ] where { f0 x = x } ; instance F Int where { f0 x = x } ; instance ( F b , F a ) => F ( a -> b ) where { f0 x = x } ; "
	checkBinds(t, ahead, [][2]string{
		{"g :: A a => a -> a ; g x = a0 x", "g #1.1 x = ( ( a0 #1.1 ) x )"},
		{"g :: A a => a -> a ; g x = b0 x", "g #1.1 x = ( ( b0 ( super:A:B #1.1 ) ) x )"},
		{"g :: A a => a -> a ; g x = e0 x", "g #1.1 x = ( ( e0 ( super:B:E ( super:A:B #1.1 ) ) ) x )"},
		{"g :: A a => a -> a ; g x = f0 x", "g #1.1 x = ( ( f0 ( super:C:F ( super:A:C #1.1 ) ) ) x )"},
		{"g :: Z a => a -> a ; g x = f0 x", "g #1.1 x = ( ( f0 ( super:C:F ( super:A:C ( super:Z:A #1.1 ) ) ) ) x )"},
		{"g :: ( D a , F a ) => a -> a ; g x = f0 x", "g #1.1 #1.2 x = ( ( f0 ( super:D:F #1.1 ) ) x )"},
		{"g :: ( F a , D a ) => a -> a ; g x = f0 x", "g #1.1 #1.2 x = ( ( f0 #1.1 ) x )"},
		{"g :: ( F a , F a ) => a -> a ; g x = f0 x", "g #1.1 #1.2 x = ( ( f0 #1.1 ) x )"},
		{"g :: ( E b , D a , C b ) => a -> b -> b ; g x y = case f0 x of { _ -> c0 (f0 y) }", "g #1.1 #1.2 #1.3 x y = ( case ( ( f0 ( super:D:F #1.2 ) ) x ) of { _ -> ( ( c0 #1.3 ) ( ( f0 ( super:E:F #1.1 ) ) y ) ) } )"},
		{"g :: ( E a , D a ) => a -> [ a ] ; g x = f0 [ x ]", "g #1.1 #1.2 x = ( ( f0 ( inst:F:[] #1.2 #1.1 ) ) [ x ] )"},
		{"g :: A a => a -> [ a ] ; g x = f0 [ x ]", "g #1.1 x = ( ( f0 ( inst:F:[] ( super:A:D #1.1 ) ( super:B:E ( super:A:B #1.1 ) ) ) ) [ x ] )"},
		{"g :: F a => a -> a -> Int ; g x = f0 ( \\ y -> 1 )", "g #1.1 x = ( ( f0 ( inst:F:-> inst:F:Int #1.1 ) ) ( \\ y -> 1 ) )"},
		{"g :: A a => a -> a ; g x = let { h :: B b => b -> b ; h y = case e0 x of { _ -> e0 y } } in h x", "g #1.1 x = ( let { h #2.1 y = ( case ( ( e0 ( super:B:E ( super:A:B #1.1 ) ) ) x ) of { _ -> ( ( e0 ( super:B:E #2.1 ) ) y ) } ) } in ( ( h ( super:A:B #1.1 ) ) x ) )"},
		{"g :: A a => a -> a ; g x = h x where { h y = case x of { _ -> e0 y } ; k y = if True then e0 y else x }", "g #1.1 x = ( ( h ( super:B:E ( super:A:B #1.1 ) ) ) x ) where { h #2.1 y = ( case x of { _ -> ( ( e0 #2.1 ) y ) } ) ; k y = ( if True then ( ( e0 ( super:B:E ( super:A:B #1.1 ) ) ) y ) else x ) }"},
		{"g x = ( f0 x , e0 x , d0 x )", "g #1.1 #1.2 x = ( ( ( f0 ( super:E:F #1.1 ) ) x ) , ( ( e0 #1.1 ) x ) , ( ( d0 #1.2 ) x ) )"},
		{"g x = ( f0 x , d0 x , e0 x )", "g #1.1 #1.2 x = ( ( ( f0 ( super:D:F #1.1 ) ) x ) , ( ( d0 #1.1 ) x ) , ( ( e0 #1.2 ) x ) )"},
		{"g x = ( d0 x , f0 x , e0 x , a0 x )", "g #1.1 x = ( ( ( d0 ( super:A:D #1.1 ) ) x ) , ( ( f0 ( super:C:F ( super:A:C #1.1 ) ) ) x ) , ( ( e0 ( super:B:E ( super:A:B #1.1 ) ) ) x ) , ( ( a0 #1.1 ) x ) )"},
		{"g :: D a => a -> a ; g x = if True then g x else x", "g #1.1 x = ( if True then ( ( g #1.1 ) x ) else x )"},
		{"g :: F a => a -> Int ; g x = g ( h x ) ; h :: a -> ( a -> Int ) ; h x y = 1", "g #1.1 x = ( ( g ( inst:F:-> inst:F:Int #1.1 ) ) ( h x ) ) ; h x y = 1"},
	})
}

func TestClassesAndInstancesBecomeClauses(t *testing.T) {
	checkAllBinds(t, [][2]string{
		{"class C a where { }", ""},
		{"class C a where { } ; instance C Int where { }", "inst:C:Int = dict:C"},
		{"class C a where { m :: a }", "m ( dict:C x ) = x"},
		{"class C a where { m , n :: a ; o :: a -> a }", "m ( dict:C x _ _ ) = x ; n ( dict:C _ x _ ) = x ; o ( dict:C _ _ x ) = x"},
		{"class ( D a , E a ) => C a where { m :: a } ; class D a where { } ; class E a where { n :: a }", "super:C:D ( dict:C x _ _ ) = x ; super:C:E ( dict:C _ x _ ) = x ; m ( dict:C _ _ x ) = x ; n ( dict:E x ) = x"},
		{"class D a where { } ; class ( D a , D a ) => C a where { }", "super:C:D ( dict:C x _ ) = x ; super:C:D ( dict:C _ x ) = x"},
		{"f = 1 ; class C a where { m :: a } ; g = 2 ; instance C Int where { m = f }", "m ( dict:C x ) = x ; inst:C:Int = ( dict:C m:m ) where { m:m = f } ; f = 1 ; g = 2"},
		{"class C a where { m , n :: a -> a } ; instance C Int where { n 1 = 2 ; n x = m x ; m y = y }", "m ( dict:C x _ ) = x ; n ( dict:C _ x ) = x ; inst:C:Int = ( dict:C m:m m:n ) where { m:m y = y ; m:n 1 = 2 ; m:n x = ( ( m inst:C:Int ) x ) }"},
		{"class C a where { m :: a -> a } ; instance C a => C [ a ] where { m [ x ] = [ m x ] ; m y = m y }", "m ( dict:C x ) = x ; inst:C:[] #1.1 = ( dict:C m:m ) where { m:m [ x ] = [ ( ( m #1.1 ) x ) ] ; m:m y = ( ( m ( inst:C:[] #1.1 ) ) y ) }"},
		{"class C a where { m :: C b => b -> a -> a } ; instance ( C b , C a ) => C ( a , b ) where { m x ( y , z ) = ( m x y , m ( x , y ) z ) }", "m ( dict:C x ) = x ; inst:C:(,) #1.1 #1.2 = ( dict:C m:m ) where { m:m #2.1 x ( y , z ) = ( ( ( m #1.2 #2.1 ) x y ) , ( ( m #1.1 ( inst:C:(,) #1.2 #2.1 ) ) ( x , y ) z ) ) }"},
		{"class C a where { m :: a -> a } ; class C a => D a where { n :: ( D b , C c ) => a -> b -> c -> c } ; instance C ( ) where { m x = x } ; instance D ( ) where { n x y z = let { g w = m w } in case m x of { _ -> case g y of { _ -> g (n x y z) } } }", "m ( dict:C x ) = x ; super:D:C ( dict:D x _ ) = x ; n ( dict:D _ x ) = x ; inst:C:() = ( dict:C m:m ) where { m:m x = x } ; inst:D:() = ( dict:D inst:C:() m:n ) where { m:n #2.1 #2.2 x y z = ( let { g #3.1 w = ( ( m #3.1 ) w ) } in ( case ( ( m inst:C:() ) x ) of { _ -> ( case ( ( g ( super:D:C #2.1 ) ) y ) of { _ -> ( ( g #2.2 ) ( ( n inst:D:() #2.1 #2.2 ) x y z ) ) } ) } ) ) }"},
		{"class C a where { } ; class C a => D a where { } ; class D a => E a where { } ; data T a b = T ; instance C b => C ( T a b ) where { } ; instance ( C a , D b ) => D ( T a b ) where { } ; instance ( E b , D a ) => E ( T a b ) where { }", "super:D:C ( dict:D x ) = x ; super:E:D ( dict:E x ) = x ; inst:C:T #1.1 = dict:C ; inst:D:T #1.1 #1.2 = ( dict:D ( inst:C:T ( super:D:C #1.2 ) ) ) ; inst:E:T #1.1 #1.2 = ( dict:E ( inst:D:T ( super:D:C #1.2 ) ( super:E:D #1.1 ) ) )"},
		{"class C a where { m :: a -> Bool } ; instance C a => C ( a -> b ) where { m f = True }", "m ( dict:C x ) = x ; inst:C:-> #1.1 = ( dict:C m:m ) where { m:m f = True }"},
		{"class Eq a where { (==) :: a -> a -> Bool } ; data T a = A | B a deriving ( Eq )", "== ( dict:Eq x ) = x ; inst:Eq:T #1.1 = ( dict:Eq m:== ) where { m:== A A = True ; m:== ( B a1 ) ( B b1 ) = ( ( == #1.1 ) a1 b1 ) ; m:== _ _ = False }"},
		{"class Show a where { show :: a -> [ Char ] } ; data T a = A [ T a ] deriving ( Show ) ; instance Show a => Show [ a ] where { show _ = \"\" }", "show ( dict:Show x ) = x ; inst:Show:T #1.1 = ( dict:Show m:show ) where { m:show ( A a1 ) = ( primAppend \"(A\" ( primAppend \" \" ( primAppend ( ( show ( inst:Show:[] ( inst:Show:T #1.1 ) ) ) a1 ) \")\" ) ) ) } ; inst:Show:[] #1.1 = ( dict:Show m:show ) where { m:show _ = \"\" }"},
	})
}

func TestInstancesDoNotType(t *testing.T) {
	checkTypes(t, eqAhead+"class Show a where { show :: a -> [ Char ] } ; class Big a where { big :: Eq b => a -> b -> Bool ; same :: a -> a } ; ", [][2]string{
		{"data T = T (Int -> Int) deriving ( Eq )", "?M.Eq"},
		{"data T a = T a deriving ( Eq ) ; f x = T x == T x", "f :: (Eq a) => a -> Bool"},
		{"data T a = T a deriving ( Eq , Show ) ; f x = ( T x == T x , show [ T x ] )", "?M.f"},
		{"data T a = T (U a) deriving ( Eq ) ; data U a = U (T a) deriving ( Eq ) ; f x = U x == U x", "f :: (Eq a) => T a -> Bool"},
		{"instance Show [ a ] where { show x = show x }", ""},
		{"instance Show [ a ] where { show [ x ] = show x }", "?M.Show"},
		{"instance Show [ a ] where { show x = x }", "?M.Show"},
		{"instance Show ( a , b ) where { show ( x , y ) = if True then show ( x , x ) else show ( y , x ) }", ""},
		{"instance Show ( a , b ) where { show ( x , y ) = case [ x , y ] of { _ -> \"\" } }", "?M.Show"},
		{"instance Show a => Show [ a ] where { show x = case x == x of { _ -> \"\" } }", "?M.Show"},
		{"instance Show Int where { show x y = \"\" }", "?M.Show"},
		{"instance Show Int where { show = primShow }", ""},
		{"instance Big Int where { same x = x ; big x y = y == y }", ""},
		{"instance Big Int where { same x = 1 ; big x y = x == y }", "?M.Big"},
		{"instance Big Int where { same x = x ; big x y = y <= y }", "?M.Big"},
		{"instance Big Char where { same x = x ; big x y = [ y ] == [ ] }", ""},
		{"instance Big a => Big [ a ] where { same x = x ; big x y = case x of { [ z ] -> big z y ; _ -> big x [ y ] } }", ""},
		{"instance Big Char where { same x = x ; big x y = [ ] == [ ] }", "?M.Big"},
	})
}
