package tests

import (
	"slices"
	"testing"

	"loop.example/g00017/impl"
)

func TestBuiltinTables(t *testing.T) {
	const want = "data Bool/0 False True ; data []/1 [] : ; data Int/0 ; data Char/0 ; data ->/2 ; data ()/0 () ; data (,)/2 (,) ; data (,,)/3 (,,) ; data (,,,)/4 (,,,) ; data (,,,,)/5 (,,,,) ; data (,,,,,)/6 (,,,,,) ; data (,,,,,,)/7 (,,,,,,)" +
		" ; con False of Bool 0/0 ; con True of Bool 1/0 ; con [] of [] 0/1 ; con : of [] 1/1 @0 []{@0} ; con () of () 0/0 ; con (,) of (,) 0/2 @0 @1 ; con (,,) of (,,) 0/3 @0 @1 @2 ; con (,,,) of (,,,) 0/4 @0 @1 @2 @3 ; con (,,,,) of (,,,,) 0/5 @0 @1 @2 @3 @4 ; con (,,,,,) of (,,,,,) 0/6 @0 @1 @2 @3 @4 @5 ; con (,,,,,,) of (,,,,,,) 0/7 @0 @1 @2 @3 @4 @5 @6"
	for _, tables := range []impl.Tables{impl.Builtins(), slowBuiltins(), impl.TableOf(nil).Tables, impl.TableOf(modulesOf(t, "module A where { x = 1 }")).Tables} {
		if got := tablesText(tables); got != want {
			t.Errorf("%s\nnot\n%s", got, want)
		}
	}
	for _, c := range impl.Builtins().Cons {
		for _, field := range c.Fields {
			if impl.TypeFault(field) {
				t.Errorf("%s has a faulty field", c.Name)
			}
		}
	}
}

func TestTablesOfDatas(t *testing.T) {
	checkTold(t, [][2]string{
		{"", ""}, {"data T = A", "data M.T/0 M.A ; con M.A of M.T 0/0"}, {"data T = T | U T Int", "data M.T/0 M.T M.U ; con M.T of M.T 0/0 ; con M.U of M.T 1/0 M.T Int"}, {"data T a = A", "data M.T/1 M.A ; con M.A of M.T 0/1"},
		{"data T a b = A b a | B | C ( T b a )", "data M.T/2 M.A M.B M.C ; con M.A of M.T 0/2 @1 @0 ; con M.B of M.T 1/2 ; con M.C of M.T 2/2 M.T{@1 @0}"},
		{"data T x y z = A z ( z -> [ y ] ) ( )", "data M.T/3 M.A ; con M.A of M.T 0/3 @2 ->{@2 []{@1}} ()"}, {"data T a = A ( a , [ Char ] , Bool ) ( ( a -> Int ) -> a )", "data M.T/1 M.A ; con M.A of M.T 0/1 (,,){@0 []{Char} Bool} ->{->{@0 Int} @0}"},
		{"data T a = A ( a , a , a , a , a , a , a )", "data M.T/1 M.A ; con M.A of M.T 0/1 (,,,,,,){@0 @0 @0 @0 @0 @0 @0}"},
		{"data U = B ( T Int U ) ; data T a b = A", "data M.U/0 M.B ; data M.T/2 M.A ; con M.B of M.U 0/0 M.T{Int M.U} ; con M.A of M.T 0/2"}, {"data Int = A ( T Char ) ; data T a = B", "data M.Int/0 M.A ; data M.T/1 M.B ; con M.A of M.Int 0/0 M.T{Char} ; con M.B of M.T 0/1"},
		{"data T a = A a ; f = 1 ; f' :: T Int ; f' = A 1 ; data U = B ; infix 3 `B`", "data M.T/1 M.A ; data M.U/0 M.B ; con M.A of M.T 0/1 @0 ; con M.B of M.U 0/0"}, {"data K = L ; class L a where { }", "data M.K/0 M.L ; con M.L of M.K 0/0 ; class M.L < >"},
	})
}

func TestTablesOfClasses(t *testing.T) {
	checkTold(t, [][2]string{
		{"class K a where { }", "class M.K < >"}, {"class K a where { k :: a }", "class M.K < > M.k ; method M.k of M.K 1 M.K@0 @0"}, {"class K b where { k , j :: b ; (+) :: b -> Int }", "class M.K < > M.k M.j M.+ ; method M.k of M.K 1 M.K@0 @0 ; method M.j of M.K 1 M.K@0 @0 ; method M.+ of M.K 1 M.K@0 ->{@0 Int}"},
		{"class ( K a , L a ) => N a where { } ; class L a where { } ; class L b => K b where { }", "class M.N < M.K M.L > ; class M.L < > ; class M.K < M.L >"}, {"class ( K a , K a ) => L a where { } ; class K a where { }", "class M.L < M.K M.K > ; class M.K < >"},
		// variables beside the class's, by first appearance behind it
		{"class K a where { k :: a -> b }", "class M.K < > M.k ; method M.k of M.K 2 M.K@0 ->{@0 @1}"}, {"class K a where { k :: b -> a }", "class M.K < > M.k ; method M.k of M.K 2 M.K@0 ->{@1 @0}"}, {"class K a where { k :: d -> c -> a -> c -> b }", "class M.K < > M.k ; method M.k of M.K 4 M.K@0 ->{@1 ->{@2 ->{@0 ->{@2 @3}}}}"}, {"class K a where { k :: [ ( b , c ) ] -> ( ) -> ( c , a , b ) }", "class M.K < > M.k ; method M.k of M.K 3 M.K@0 ->{[]{(,){@1 @2}} ->{() (,,){@2 @0 @1}}}"},
		// a context of its own
		{"class K a where { k :: K b => a -> b }", "class M.K < > M.k ; method M.k of M.K 2 M.K@0 M.K@1 ->{@0 @1}"}, {"class K a where { k :: ( L c , K b , L b ) => b -> a -> c } ; class L a where { }", "class M.K < > M.k ; class M.L < > ; method M.k of M.K 3 M.K@0 M.L@2 M.K@1 M.L@1 ->{@1 ->{@0 @2}}"}, {"class K a where { k , j :: ( K b , K b ) => b -> a }", "class M.K < > M.k M.j ; method M.k of M.K 2 M.K@0 M.K@1 M.K@1 ->{@1 @0} ; method M.j of M.K 2 M.K@0 M.K@1 M.K@1 ->{@1 @0}"}, {"class L a => K a where { k :: L b => a -> b } ; class L a where { l :: a -> T a b } ; data T x y = A", "data M.T/2 M.A ; con M.A of M.T 0/2 ; class M.K < M.L > M.k ; class M.L < > M.l ; method M.k of M.K 2 M.K@0 M.L@1 ->{@0 @1} ; method M.l of M.L 2 M.L@0 ->{@0 M.T{@0 @1}}"},
	})
}

func TestTablesOfInstances(t *testing.T) {
	const head = "class K a where { k :: a } ; class K a => L a where { } ; data T a b c = A ; "
	const told = "data M.T/3 M.A ; con M.A of M.T 0/3 ; class M.K < > M.k ; class M.L < M.K > ; method M.k of M.K 1 M.K@0 @0"
	checkTold(t, [][2]string{
		{head + "instance K Int where { k = 1 }", told + " ; inst M.K Int/0"}, {head + "instance K ( T x y z ) where { k = A }", told + " ; inst M.K M.T/3"}, {head + "instance ( K z , K x ) => K ( T x y z ) where { k = A }", told + " ; inst M.K M.T/3 M.K@2 M.K@0"}, {head + "instance L Char where { } ; instance K Char where { k = 'c' }", told + " ; inst M.L Char/0 ; inst M.K Char/0"}, {"instance K Int where { k = 1 } ; " + head + "instance K Bool where { k = True }", told + " ; inst M.K Int/0 ; inst M.K Bool/0"},
		{head + "instance ( L a , K a , L a ) => K [ a ] where { k = [ ] }", told + " ; inst M.K []/1 M.L@0 M.K@0 M.L@0"}, {head + "instance ( K b ) => K ( a -> b ) where { k x = k }", told + " ; inst M.K ->/2 M.K@1"}, {head + "instance K b => K ( a , b , c ) where { k = k } ; instance K ( ) where { k = ( ) }", told + " ; inst M.K (,,)/3 M.K@1 ; inst M.K ()/0"},
		// derived ones stand behind their data
		{"data T a = A a deriving ( Show , Eq ) ; instance Show Int where { show = primShow } ; class Eq a where { (==) :: a -> a -> Bool } ; class Show a where { show :: a -> [ Char ] } ; data U = B deriving ( Eq )", "data M.T/1 M.A ; data M.U/0 M.B ; con M.A of M.T 0/1 @0 ; con M.B of M.U 0/0 ; class M.Eq < > M.== ; class M.Show < > M.show ; method M.== of M.Eq 1 M.Eq@0 ->{@0 ->{@0 Bool}} ; method M.show of M.Show 1 M.Show@0 ->{@0 []{Char}} ; inst M.Show M.T/1 M.Show@0 ; inst M.Eq M.T/1 M.Eq@0 ; inst M.Show Int/0 ; inst M.Eq M.U/0"},
	})
}

// Names stand for those of their modules, in the order in which modules come.
func TestTablesOfModules(t *testing.T) {
	const c = "module C where { import A ; import B ( T , m ) ; data S a = S ( T a ) ( U a Int ) deriving ( Eq ) ; class Eq a => K a where { k :: K b => a -> b -> S a } ; instance K ( U x y ) where { k = m } }"
	const b = "module B ( T , m ) where { import A ( Eq ) ; data T a = T a deriving ( Eq ) ; m = 1 ; class K a where { k' :: a } ; data U = U ; instance K U where { k' = U } }"
	const a = "module A where { class Eq a where { (==) :: a -> a -> Bool } ; data U b a = U b ; instance Eq Int where { (==) = primEq } ; instance Eq ( U a b ) where { x == y = True } }"
	const want = "data A.U/2 A.U ; data B.T/1 B.T ; data B.U/0 B.U ; data C.S/1 C.S ; con A.U of A.U 0/2 @0 ; con B.T of B.T 0/1 @0 ; con B.U of B.U 0/0 ; con C.S of C.S 0/1 B.T{@0} A.U{@0 Int} ; class A.Eq < > A.== ; class B.K < > B.k' ; class C.K < A.Eq > C.k ; method A.== of A.Eq 1 A.Eq@0 ->{@0 ->{@0 Bool}} ; method B.k' of B.K 1 B.K@0 @0 ; method C.k of C.K 2 C.K@0 C.K@1 ->{@0 ->{@1 C.S{@0}}} ; inst A.Eq Int/0 ; inst A.Eq A.U/2 ; inst A.Eq B.T/1 A.Eq@0 ; inst B.K B.U/0 ; inst A.Eq C.S/1 A.Eq@0 ; inst C.K A.U/2"
	inEachOrder([]string{a, b, c}, func(texts []string) {
		checkTold(t, [][2]string{{texts[0] + " " + texts[1] + " " + texts[2], want}})
	})
}

// Where imports do not tell the whole order, all modules still have the same entries, those of one module in one order.
func TestTablesInEachOrder(t *testing.T) {
	list := modulesOf(t, "module A where { class K a where { k :: a } ; data T a = P a } module B where { import A ; instance K ( T a ) where { k = k } ; data T' = P' } module C where { import A ; data U = Q | R U ; instance K U where { k = Q } ; class K a => L a where { l , m :: K b => b -> a } } module D where { import C ; import A ; instance L U where { l = k ; m = k } } module E where { data V a b = V b [ V b a ] }")
	var want []string
	inEachOrder(list, func(other []impl.Node) {
		got := checkTables(t, other)
		entries := slices.Sorted(slices.Values(entriesOf(got.Tables)))
		if want == nil {
			want = entries
		}
		if got.Code != 0 || len(got.Tables.Insts) != 3 || !slices.Equal(entries, want) {
			t.Errorf("%s", resultText(got))
		}
		for _, text := range []string{"data A.T/1 A.P", "con C.Q of C.U 0/0", "con C.R of C.U 1/0 C.U", "method C.l of C.L 2 C.L@0 A.K@1 ->{@1 @0}"} {
			if !slices.Contains(entries, text) {
				t.Errorf("no %s in %v", text, entries)
			}
		}
	})
	for _, text := range []string{"module A where { data T = P a } module B where { import A } module C where { data U = Q }", "module A where { class K a where { } ; class K a => L a where { } } module B where { import A ; instance L Int where { } } module C where { import A ; instance K Bool where { } } module D where { import C }", "module A where { class K a where { } } module B where { import A ; instance K Int where { } } module C where { import A ; instance K Int where { } }", "module A where { class K a where { k :: a } } module B where { import A ; instance K Int where { } } module C where { import A ; x = k }"} {
		list := modulesOf(t, text)
		want := resultText(checkTables(t, list))
		inEachOrder(list, func(other []impl.Node) {
			if got := resultText(checkTables(t, other)); got != want || got[0] != '?' {
				t.Errorf("%s: %s in another order", want, got)
			}
		})
	}
}

// What is not looked at by the tables turns nothing: values, fixities, what is imported, names of variables.
func TestTablesHangOnDeclarationsAlone(t *testing.T) {
	const want = "data M.T/2 M.A ; con M.A of M.T 0/2 @1 ; class M.K < > M.k ; method M.k of M.K 2 M.K@0 ->{@0 @1} ; inst M.K M.T/2 M.K@1"
	checkTold(t, [][2]string{
		{"data T a b = A b ; class K a where { k :: a -> b } ; instance K b => K ( T a b ) where { k x = k x }", want}, {"data T b a = A a ; class K x where { k :: x -> y } ; instance K a => K ( T b a ) where { k x = primError \"\" }", want}, {"f = g ; g = f ; instance K c => K ( T d c ) where { k ( A _ ) = f ; k y = f } ; infixr 3 `k` ; class K t where { k :: t -> s } ; f' :: T Int ; f' = A ; data T t s = A s", want},
		{"module N ( f ) where { f = 1 ; infix 2 `f` } module M ( ) where { import N ; data T a b = A b ; class K a where { k :: a -> b } ; instance K b => K ( T a b ) where { k x = x `f` x } }", want},
	})
}
