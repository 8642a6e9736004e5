package tests

import (
	"fmt"
	"slices"
	"strings"
	"testing"

	"loop.example/g00017/impl"
)

// What Resolve refuses has its code behind 20, and its name.
func TestTablesOfRefusedModules(t *testing.T) {
	helpers := modulesOf(t, "module H where { twice = 1 } module T where { twice = 2 }")
	codes := map[int64]int{}
	for _, w := range append(wrongModules(), wrongModule{2, "module H where { }", ""}) {
		list := append(slices.Clone(helpers), modulesOf(t, strings.ReplaceAll(w.text, "@", "X"))...)
		got := checkTables(t, list)
		codes[got.Code]++
		if got.Code != 20+w.code || got.Name != w.name || len(entriesOf(got.Tables)) > 0 {
			t.Errorf("%s: %s", w.text, resultText(got))
		}
	}
	for _, n := range []impl.Node{{}, tree(impl.DModule, "B"), tree(impl.NVar, "x"), tree(impl.DData, "T", tree(impl.DNames, ""), tree(impl.DConstr, "A"), tree(impl.DNames, ""))} {
		got := checkTables(t, []impl.Node{helpers[0], n})
		codes[got.Code]++
		if resultText(got) != "?21" {
			t.Errorf("%s: %s", kinded(n), resultText(got))
		}
	}
	for code := int64(21); code <= 33; code++ {
		if codes[code] == 0 {
			t.Errorf("codes %v", codes)
		}
	}
	// they come ahead of all that the tables could tell
	checkTold(t, [][2]string{
		{"data T a a = A ; x = y", "?29 y"}, {"class K a => K a where { } ; f x x = 1", "?31 x"}, {"instance K Int where { } ; class L a where { }", "?29 K"}, {"data T = A b deriving ( Eq ) ; class Eq a where { }", "?33 Eq"},
		{"module A where { data T a a = A } module B where { import A ; x = y }", "?29 y"}, {"module A where { import B } module B where { import A ; data T a a = A }", "?24"},
	})
}

func TestWrongDatas(t *testing.T) {
	const others = " ; class K a where { } ; data One a = One a ; data Two a b = Two a b"
	var rows [][2]string
	for _, row := range [][2]string{
		// variables of one name
		{"data T a a = A", "?1 M.T"}, {"data T a b a = A", "?1 M.T"}, {"data T b a a = A", "?1 M.T"}, {"data T a b b a = A", "?1 M.T"}, {"data T a a = A b", "?1 M.T"}, {"data T a a = A K", "?1 M.T"}, {"data T a a = A deriving ( )", "?1 M.T"},
		// a constructor that is no data
		{"data T = A K", "?1 M.K"}, {"data T a = A a K", "?1 M.K"}, {"data T = A | B | C Int K", "?1 M.K"}, {"data T = A [ K ]", "?1 M.K"}, {"data T = A ( Int , K )", "?1 M.K"}, {"data T = A ( Int -> K )", "?1 M.K"}, {"data T = A ( K -> Int )", "?1 M.K"}, {"data T a = A ( K a )", "?1 M.K"}, {"data T a = A ( One K )", "?1 M.K"}, {"data T a = A ( Two a ( Two K a ) )", "?1 M.K"},
		{"data T = A ( Int , Int , Int , Int , Int , Int , Int , Int )", "?1 (,,,,,,,)"}, {"data T = A ( Int , Int , Int , Int , Int , Int , Int , Int , K )", "?1 (,,,,,,,,)"}, {"data T = A ( Int , ( Int , Int , Int , Int , Int , Int , Int , K ) )", "?1 (,,,,,,,)"},
		// too few and too many arguments
		{"data T = A One", "?1 M.One"}, {"data T = A ( Int Int )", "?1 Int"}, {"data T a = A ( One a a )", "?1 M.One"}, {"data T a = A ( Two a )", "?1 M.Two"}, {"data T a = A Two", "?1 M.Two"}, {"data T a = A ( Two a a a )", "?1 M.Two"}, {"data T = A ( Bool Int )", "?1 Bool"}, {"data T = A ( Char Char )", "?1 Char"}, {"data T a = A T", "?1 M.T"}, {"data T = A ( T Int )", "?1 M.T"}, {"data T a = A ( T a a )", "?1 M.T"}, {"data T = A ( One One )", "?1 M.One"}, {"data T = A [ One ]", "?1 M.One"}, {"data T = A ( Int -> Two Int )", "?1 M.Two"},
		// an application of a variable, and of anything else
		{"data T a = A ( a Int )", "?1 a"}, {"data T a = A ( b Int )", "?1 b"}, {"data T a = A ( a a a )", "?1 a"}, {"data T a = A [ a Int ]", "?1 a"}, {"data T a = A ( ( One a ) a )", "?1"}, {"data T a = A ( ( Two a ) a )", "?1"}, {"data T a = A ( [ a ] a )", "?1"}, {"data T a = A ( ( a , a ) a )", "?1"}, {"data T a = A ( ( a -> a ) a )", "?1"}, {"data T a = A ( ( ) a )", "?1"}, {"data T a = A ( ( a Int ) Int )", "?1"}, {"data T a = A ( ( K a ) a )", "?1"},
		// the first one from left to right, an application ahead of its arguments
		{"data T a = A ( K ( Int Int ) )", "?1 M.K"}, {"data T a = A ( a ( Int Int ) )", "?1 a"}, {"data T a = A ( One K ( Int Int ) )", "?1 M.One"}, {"data T a = A ( ( K One ) Two )", "?1"}, {"data T a = A ( Two ( a Int ) K )", "?1 a"}, {"data T a = A ( Two K ( a Int ) )", "?1 M.K"}, {"data T a = A ( One -> Two )", "?1 M.One"}, {"data T a = A ( Two -> One )", "?1 M.Two"}, {"data T a = A ( One , K )", "?1 M.One"}, {"data T = A One K", "?1 M.One"}, {"data T = A K One", "?1 M.K"}, {"data T = A Int | B One | C K", "?1 M.One"}, {"data T a = A ( ( a -> a ) K )", "?1"}, {"data T a = A ( K K )", "?1 M.K"}, {"data T a = A ( One ( Two K ) )", "?1 M.Two"}, {"data T a = A ( One ( a K ) Int )", "?1 M.One"},
		// a variable that is none of the data's
		{"data T = A b", "?1 b"}, {"data T a = A b", "?1 b"}, {"data T a = A a | B [ c ]", "?1 c"}, {"data T a = A ( One b )", "?1 b"}, {"data T a = A ( Two a c )", "?1 c"}, {"data T a = A ( d -> c )", "?1 d"}, {"data T a = A ( a , ( c , d ) )", "?1 c"}, {"data T a b c = A c d b", "?1 d"}, {"data T = A a deriving ( )", "?1 a"},
		// constructors are named ahead of variables
		{"data T = A b K", "?1 M.K"}, {"data T = A b | B ( Int Int )", "?1 Int"}, {"data T = A ( Two b K )", "?1 M.K"}, {"data T = A b | B ( c Int )", "?1 c"},
		// the first data in order
		{"data T = A b ; data U = B K", "?1 b"}, {"data T = A ; data U a a = B ; data V = C K", "?1 M.U"}, {"data T = A K ; data U a a = B", "?1 M.K"},
	} {
		rows = append(rows, [2]string{row[0] + others, row[1]}, [2]string{others[3:] + " ; " + row[0], row[1]})
	}
	checkTold(t, rows)
}

func TestWrongSuperclasses(t *testing.T) {
	var rows [][2]string
	for _, row := range [][2]string{
		{"class D a => C a where { }", "?2 M.C"}, {"class Int a => C a where { }", "?2 M.C"}, {"class ( K a , D a ) => C a where { }", "?2 M.C"}, {"class ( D a , K a ) => C a where { }", "?2 M.C"}, {"class C a where { } ; class D a => E a where { }", "?2 M.E"}, {"class Bool b => C b where { c :: b }", "?2 M.C"},
		{"class K b => C a where { }", "?2 M.C"}, {"class ( K a , K b ) => C a where { }", "?2 M.C"}, {"class ( K b , K a ) => C a where { }", "?2 M.C"}, {"class C b => C a where { }", "?2 M.C"}, {"class D b => C a where { }", "?2 M.C"}, {"class K c => C a where { c :: a -> c }", "?2 M.C"},
		{"class K b => C a where { } ; class D a => B a where { }", "?2 M.C"}, {"class D a => C a where { } ; class K b => B a where { }", "?2 M.C"},
	} {
		rows = append(rows, [2]string{row[0] + " ; class K a where { } ; data D a = D a", row[1]}, [2]string{"data D = D ; class K a where { } ; " + row[0], row[1]})
	}
	checkTold(t, rows)
}

// line has classes, each with the next one as its superclass; the last one with that of the number.
func line(count, back int) string {
	var parts []string
	for i := range count {
		super := (i + 1) % count
		if i == count-1 {
			super = back
		}
		parts = append(parts, fmt.Sprintf("class K%d a => K%d a where { }", super, i))
	}
	return strings.Join(parts, " ; ")
}

func TestSuperclassesGoRound(t *testing.T) {
	checkTold(t, [][2]string{
		{"class K a => K a where { }", "?3 M.K"}, {"class L a => K a where { } ; class K a => L a where { }", "?3 M.K"}, {"class K a => L a where { } ; class L a => K a where { }", "?3 M.L"}, {line(3, 0), "?3 M.K0"}, {line(7, 0), "?3 M.K0"},
		// those that only lead to a round
		{line(2, 1), "?3 M.K1"}, {line(3, 1), "?3 M.K1"}, {line(3, 2), "?3 M.K2"}, {line(7, 4), "?3 M.K4"}, {"class R a => K a where { } ; class K a => L a where { } ; class R a => R a where { }", "?3 M.R"},
		// through one of several
		{"class A a where { } ; class ( A a , D a , C a ) => B a where { } ; class B a => C a where { } ; class D a where { }", "?3 M.B"}, {"class ( B a , C a ) => A a where { } ; class D a => B a where { } ; class D a => C a where { } ; class A a => D a where { }", "?3 M.A"}, {"class ( K a , K a ) => K a where { }", "?3 M.K"},
		// between two rounds
		{"class ( B a , A a ) => A a where { } ; class C a => B a where { } ; class C a => C a where { }", "?3 M.A"}, {"class C a => B a where { } ; class ( B a , A a ) => A a where { } ; class C a => C a where { }", "?3 M.A"}, {"class C a => B a where { } ; class C a => C a where { } ; class ( B a , A a ) => A a where { }", "?3 M.C"}, {"class ( B a , C a ) => A a where { } ; class A a => B a where { } ; class D a => C a where { } ; class C a => D a where { }", "?3 M.A"}, {"class ( D a , A a ) => C a where { } ; class C a => D a where { } ; class B a => A a where { } ; class A a => B a where { }", "?3 M.C"},
		// two ways that are no round
		{"class ( B a , C a ) => A a where { } ; class D a => B a where { } ; class D a => C a where { } ; class D a where { }", "class M.A < M.B M.C > ; class M.B < M.D > ; class M.C < M.D > ; class M.D < >"}, {"class ( B a , C a ) => A a where { } ; class C a => B a where { } ; class C a where { }", "class M.A < M.B M.C > ; class M.B < M.C > ; class M.C < >"},
	})
}

func TestWrongMethods(t *testing.T) {
	var rows [][2]string
	for _, row := range [][2]string{
		// none by 1
		{"k :: a -> K", "?4 M.k"}, {"k :: a -> One", "?4 M.k"}, {"k :: One a a", "?4 M.k"}, {"k :: Int a", "?4 M.k"}, {"k :: a Int", "?4 M.k"}, {"k :: b a", "?4 M.k"}, {"k :: ( One a ) a", "?4 M.k"}, {"k :: ( a , a , a , a , a , a , a , a )", "?4 M.k"}, {"k :: K a", "?4 M.k"}, {"k :: [ ( a , One ) ]", "?4 M.k"},
		// none by 2 and by 3
		{"k :: One b => a -> b", "?4 M.k"}, {"k :: Int b => a -> b", "?4 M.k"}, {"k :: ( K b , One c ) => a -> b -> c", "?4 M.k"}, {"k :: K c => a -> b", "?4 M.k"}, {"k :: ( K b , K c ) => a -> b", "?4 M.k"}, {"k :: One c => a -> b", "?4 M.k"},
		// the class's variable
		{"k :: Int", "?4 M.k"}, {"k :: b", "?4 M.k"}, {"k :: b -> One b", "?4 M.k"}, {"k :: K b => b", "?4 M.k"}, {"k :: K a => a", "?4 M.k"}, {"k :: ( K b , K a ) => a -> b", "?4 M.k"}, {"k :: L a => a -> b", "?4 M.k"}, {"k :: K a => Int", "?4 M.k"}, {"k :: K a => b", "?4 M.k"}, {"k :: One a => a", "?4 M.k"},
		// the first method
		{"j :: a ; k :: b ; l :: Int", "?4 M.k"}, {"j , i :: a ; k , l :: b", "?4 M.k"}, {"l , k :: Int", "?4 M.l"}, {"(+) :: Int", "?4 M.+"}, {"(!) , k :: Int", "?4 M.!"}, {"k' :: K a => a ; k :: Int", "?4 M.k'"},
	} {
		rows = append(rows, [2]string{"class K a where { " + row[0] + " } ; data One a = One a ; class L a where { }", row[1]}, [2]string{"class L b where { l' :: b } ; data One a = One a ; class L a => K a where { " + row[0] + " }", row[1]})
	}
	checkTold(t, append(rows, [2]string{"class K a where { k :: b } ; class L a where { l :: Int }", "?4 M.k"}, [2]string{"class K a where { k :: a } ; class L b where { l :: a }", "?4 M.l"}))
	// a signature that names nothing is none of a method
	sig := tree(impl.DSig, "", tree(impl.DNames, ""), tree(impl.DContext, ""), tree(impl.TCon, "Int"))
	class := tree(impl.DClass, "K", tree(impl.DContext, ""), tree(impl.TVar, "a"), sig)
	if got := resultText(checkTables(t, []impl.Node{defining("M", class)})); got != "class M.K < >" {
		t.Error(got)
	}
}

func TestWrongInstances(t *testing.T) {
	var rows [][2]string
	for _, row := range [][2]string{
		// no such class
		{"instance One Int where { }", "?5 M.One"}, {"instance Bool Int where { }", "?5 Bool"}, {"instance One a where { }", "?5 M.One"}, {"instance One Int where { k = 1 }", "?5 M.One"},
		// a type that is none of the forms
		{"instance K a where { }", "?5 M.K"}, {"instance K ( a b ) where { }", "?5 M.K"}, {"instance K ( ( Two a ) b ) where { }", "?5 M.K"}, {"instance K ( [ a ] b ) where { }", "?5 M.K"}, {"instance K ( ( a -> b ) c ) where { }", "?5 M.K"}, {"instance K ( ( ) a ) where { }", "?5 M.K"},
		// no data
		{"instance K K where { }", "?5 M.K"}, {"instance K ( K a ) where { }", "?5 M.K"}, {"instance K ( a , b , c , d , e , f , g , h ) where { }", "?5 M.K"},
		// another number of variables
		{"instance K One where { }", "?5 M.K"}, {"instance K ( One a b ) where { }", "?5 M.K"}, {"instance K ( Two a ) where { }", "?5 M.K"}, {"instance K Two where { }", "?5 M.K"}, {"instance K ( Two a b c ) where { }", "?5 M.K"}, {"instance K ( Int a ) where { }", "?5 M.K"}, {"instance K ( Bool a b ) where { }", "?5 M.K"},
		// what is no variable
		{"instance K ( One Int ) where { }", "?5 M.K"}, {"instance K ( Two a Int ) where { }", "?5 M.K"}, {"instance K ( Two [ a ] b ) where { }", "?5 M.K"}, {"instance K [ Int ] where { }", "?5 M.K"}, {"instance K [ [ a ] ] where { }", "?5 M.K"}, {"instance K ( a -> Int ) where { }", "?5 M.K"}, {"instance K ( Int -> a ) where { }", "?5 M.K"}, {"instance K ( a , Int ) where { }", "?5 M.K"}, {"instance K ( ( ) , a ) where { }", "?5 M.K"}, {"instance K ( a , b , One c ) where { }", "?5 M.K"},
		// one variable twice
		{"instance K ( Two a a ) where { }", "?5 M.K"}, {"instance K ( a -> a ) where { }", "?5 M.K"}, {"instance K ( a , a ) where { }", "?5 M.K"}, {"instance K ( a , b , a ) where { }", "?5 M.K"}, {"instance K ( a , b , c , d , e , f , f ) where { }", "?5 M.K"},
		// a context of another variable, and of no class
		{"instance K a => K Int where { }", "?5 M.K"}, {"instance K b => K [ a ] where { }", "?5 M.K"}, {"instance ( K a , K b ) => K ( One a ) where { }", "?5 M.K"}, {"instance ( K b , K a ) => K ( One a ) where { }", "?5 M.K"}, {"instance K c => K ( a -> b ) where { }", "?5 M.K"}, {"instance K c => K ( a , b ) where { }", "?5 M.K"}, {"instance One a => K [ a ] where { }", "?5 M.K"}, {"instance Int a => K ( One a ) where { }", "?5 M.K"}, {"instance ( K a , One b ) => K ( Two a b ) where { }", "?5 M.K"}, {"instance One a => K Int where { }", "?5 M.K"},
		// the first instance in order
		{"instance K Int where { } ; instance L a where { } ; instance K b where { }", "?5 M.L"}, {"instance L a => L ( One b ) where { } ; instance One a where { }", "?5 M.L"},
	} {
		rows = append(rows, [2]string{row[0] + " ; class K a where { } ; class L a where { } ; data One a = One a ; data Two a b = Two a b ; k = 1", row[1]})
	}
	checkTold(t, append(rows,
		// each of the forms
		[2]string{"class K a where { } ; instance K Int where { } ; instance K ( T a b ) where { } ; instance K ( a -> b ) where { } ; instance K ( ) where { } ; instance K ( a , b ) where { } ; instance K [ a ] where { } ; data T x y = A ; instance K U where { } ; data U = B ; instance K ( a , b , c , d , e , f , g ) where { }", "data M.T/2 M.A ; data M.U/0 M.B ; con M.A of M.T 0/2 ; con M.B of M.U 0/0 ; class M.K < > ; inst M.K Int/0 ; inst M.K M.T/2 ; inst M.K ->/2 ; inst M.K ()/0 ; inst M.K (,)/2 ; inst M.K []/1 ; inst M.K M.U/0 ; inst M.K (,,,,,,)/7"},
		[2]string{"class ( L a ) => K a where { } ; class L a where { } ; instance ( K c , L b , K b ) => K ( c -> b ) where { } ; instance ( L y , L x , L y ) => L ( x -> y ) where { }", "class M.K < M.L > ; class M.L < > ; inst M.K ->/2 M.K@0 M.L@1 M.K@1 ; inst M.L ->/2 M.L@1 M.L@0 M.L@1"},
	))
}

func TestSecondInstances(t *testing.T) {
	const head = "class K a where { } ; class L a where { } ; data T a = A a ; data U = B ; "
	checkTold(t, [][2]string{
		{head + "instance K Int where { } ; instance K Int where { }", "?6 Int"}, {head + "instance K ( T a ) where { } ; instance K ( T b ) where { }", "?6 M.T"}, {head + "instance K [ a ] where { } ; instance K a => K [ a ] where { }", "?6 []"}, {head + "instance K ( a -> b ) where { } ; instance K ( b -> a ) where { }", "?6 ->"}, {head + "instance K ( a , b ) where { } ; instance K ( a , b ) where { }", "?6 (,)"}, {head + "instance K ( ) where { } ; instance K ( ) where { }", "?6 ()"}, {head + "instance K U where { } ; instance K U where { }", "?6 M.U"},
		// the first one that comes again
		{head + "instance K Int where { } ; instance K Bool where { } ; instance K Bool where { } ; instance K Int where { }", "?6 Bool"}, {head + "instance K Int where { } ; instance L Bool where { } ; instance K Int where { } ; instance L Bool where { }", "?6 Int"}, {head + "instance K Int where { } ; instance K Int where { } ; instance K Int where { }", "?6 Int"},
		// of two classes, of two datas
		{head + "instance K Int where { } ; instance L Int where { } ; instance K Bool where { } ; instance L ( a , b ) where { } ; instance L ( a , b , c ) where { }", "data M.T/1 M.A ; data M.U/0 M.B ; con M.A of M.T 0/1 @0 ; con M.B of M.U 0/0 ; class M.K < > ; class M.L < > ; inst M.K Int/0 ; inst M.L Int/0 ; inst M.K Bool/0 ; inst M.L (,)/2 ; inst M.L (,,)/3"},
		// derived ones
		{"class Eq a where { (==) :: a -> a -> Bool } ; data T = A deriving ( Eq ) ; instance Eq T where { a == b = True }", "?6 M.T"}, {"class Eq a where { (==) :: a -> a -> Bool } ; instance Eq T where { a == b = True } ; data T = A deriving ( Eq )", "?6 M.T"}, {"class Eq a where { (==) :: a -> a -> Bool } ; data T = A deriving ( Eq , Eq )", "?6 M.T"},
		// of two modules
		{"module A where { class K a where { } ; instance K Int where { } } module B where { import A ; instance K Int where { } }", "?6 Int"}, {"module A where { class K a where { } ; data T = P } module B where { import A ; instance K T where { } } module C where { import A ; data T = P ; } module D where { import A ; instance K T where { } }", "?6 A.T"},
	})
}

func TestWrongClauses(t *testing.T) {
	const head = "class K a where { k , j :: a } ; class L a where { l :: a } ; f = 1 ; class N a where { } ; "
	checkTold(t, [][2]string{
		// of what is no method
		{head + "instance K Int where { k = 1 ; j = 1 ; l = 1 }", "?7 M.l"}, {head + "instance K Int where { k = 1 ; f = 1 ; j = 1 }", "?7 M.f"}, {head + "instance K Int where { primAdd = 1 ; k = 1 ; j = 1 }", "?7 primAdd"}, {head + "instance N Int where { k = 1 }", "?7 M.k"}, {head + "instance L Int where { j = 1 ; l = 1 ; k = 1 }", "?7 M.j"}, {head + "instance L Int where { l = 1 ; k = 1 ; f = 1 }", "?7 M.k"},
		// without clauses
		{head + "instance K Int where { }", "?7 M.k"}, {head + "instance K Int where { k = 1 }", "?7 M.j"}, {head + "instance K Int where { j = 1 }", "?7 M.k"}, {head + "instance L Int where { }", "?7 M.l"}, {head + "instance L [ a ] where { }", "?7 M.l"},
		// both: clauses first
		{head + "instance K Int where { k = 1 ; l = 1 }", "?7 M.l"}, {head + "instance K Int where { l = 1 ; f = 1 }", "?7 M.l"}, {head + "instance K Int where { f = 1 }", "?7 M.f"},
		// the first instance
		{head + "instance L Int where { l = 1 } ; instance K Int where { k = 1 } ; instance L Bool where { k = 1 }", "?7 M.j"}, {head + "instance L Int where { l = 1 ; k = 1 } ; instance K Int where { }", "?7 M.k"}, {head + "instance K Int where { } ; instance L Int where { k = 1 ; l = 1 }", "?7 M.k"},
		// derived ones
		{"class Eq a where { (==) :: a -> a -> Bool ; (/=) :: a -> a -> Bool } ; data T = A deriving ( Eq )", "?7 M./="}, {"class Show a where { shows , show :: a } ; data T = A deriving ( Show )", "?7 M.shows"},
		// several clauses of one method, in any order
		{head + "instance K Bool where { j = 1 ; k = 1 } ; instance L Int where { l 1 = 1 ; l 2 = 2 }", "class M.K < > M.k M.j ; class M.L < > M.l ; class M.N < > ; method M.k of M.K 1 M.K@0 @0 ; method M.j of M.K 1 M.K@0 @0 ; method M.l of M.L 1 M.L@0 @0 ; inst M.K Bool/0 ; inst M.L Int/0"},
	})
}

func TestUnmetSuperclasses(t *testing.T) {
	const head = "class K a where { } ; class K a => L a where { } ; class L a => N a where { } ; class ( K a , N a ) => P a where { } ; data T a b = A a b ; "
	const told = "data M.T/2 M.A ; con M.A of M.T 0/2 @0 @1 ; class M.K < > ; class M.L < M.K > ; class M.N < M.L > ; class M.P < M.K M.N > ; "
	checkTold(t, [][2]string{
		// without an instance
		{head + "instance L Int where { }", "?8 M.K"}, {head + "instance L Int where { } ; instance K Bool where { }", "?8 M.K"}, {head + "instance L [ a ] where { } ; instance K ( T a b ) where { }", "?8 M.K"}, {head + "instance P Int where { } ; instance K Int where { }", "?8 M.N"}, {head + "instance P Int where { } ; instance N Int where { } ; instance L Int where { }", "?8 M.K"}, {head + "instance P Int where { }", "?8 M.K"}, {head + "instance N Int where { } ; instance L Int where { }", "?8 M.K"}, {head + "instance L Int where { } ; instance N Int where { } ; instance K Int where { }", told + "inst M.L Int/0 ; inst M.N Int/0 ; inst M.K Int/0"},
		// preds that are not among those of this one
		{head + "instance L [ a ] where { } ; instance K a => K [ a ] where { }", "?8 M.K"}, {head + "instance K a => L ( T a b ) where { } ; instance K b => K ( T a b ) where { }", "?8 M.K"}, {head + "instance K a => L ( T a b ) where { } ; instance ( K a , K b ) => K ( T a b ) where { }", "?8 M.K"}, {head + "instance K x => L ( T x y ) where { } ; instance K x => K ( T y x ) where { }", "?8 M.K"}, {head + "instance K a => L [ a ] where { } ; instance L a => K [ a ] where { }", "?8 M.K"}, {head + "instance L a => L [ a ] where { } ; instance N a => K [ a ] where { }", "?8 M.K"},
		// preds that are
		{head + "instance K a => L [ a ] where { } ; instance K a => K [ a ] where { }", told + "inst M.L []/1 M.K@0 ; inst M.K []/1 M.K@0"}, {head + "instance K a => L [ a ] where { } ; instance K [ a ] where { }", told + "inst M.L []/1 M.K@0 ; inst M.K []/1"}, {head + "instance ( K a , L b ) => L ( T a b ) where { } ; instance ( L y , K x ) => K ( T x y ) where { }", told + "inst M.L M.T/2 M.K@0 M.L@1 ; inst M.K M.T/2 M.L@1 M.K@0"},
		// preds that are superclasses of these
		{head + "instance L a => L [ a ] where { } ; instance K a => K [ a ] where { }", told + "inst M.L []/1 M.L@0 ; inst M.K []/1 M.K@0"}, {head + "instance P a => L [ a ] where { } ; instance ( K a , L a , N a ) => K [ a ] where { }", told + "inst M.L []/1 M.P@0 ; inst M.K []/1 M.K@0 M.L@0 M.N@0"}, {head + "instance N b => L ( T a b ) where { } ; instance K b => K ( T a b ) where { }", told + "inst M.L M.T/2 M.N@1 ; inst M.K M.T/2 M.K@1"}, {head + "instance N b => L ( T a b ) where { } ; instance K a => K ( T a b ) where { }", "?8 M.K"},
		// the first superclass of the first instance
		{head + "instance K a => K [ a ] where { } ; instance P [ a ] where { }", "?8 M.K"}, {head + "instance K [ a ] where { } ; instance P [ a ] where { } ; instance N a => N [ a ] where { } ; instance N a => L [ a ] where { }", "?8 M.N"}, {head + "instance P Int where { } ; instance K Int where { } ; instance L Bool where { }", "?8 M.N"}, {head + "instance L Bool where { } ; instance P Int where { } ; instance K Int where { }", "?8 M.K"},
		// derived ones
		{"class Eq a where { (==) :: a -> a -> Bool } ; class Eq a => Ord a where { (<=) :: a -> a -> Bool } ; data T = A deriving ( Ord )", "?8 M.Eq"}, {"class Eq a where { (==) :: a -> a -> Bool } ; class Eq a => Ord a where { (<=) :: a -> a -> Bool } ; data T a b = A deriving ( Ord , Eq )", "data M.T/2 M.A ; con M.A of M.T 0/2 ; class M.Eq < > M.== ; class M.Ord < M.Eq > M.<= ; method M.== of M.Eq 1 M.Eq@0 ->{@0 ->{@0 Bool}} ; method M.<= of M.Ord 1 M.Ord@0 ->{@0 ->{@0 Bool}} ; inst M.Ord M.T/2 M.Ord@0 M.Ord@1 ; inst M.Eq M.T/2 M.Eq@0 M.Eq@1"},
		// in another module
		{"module B where { import A ; instance K Int where { } } module A where { class K a where { } ; class K a => L a where { } ; instance L Int where { } }", "class A.K < > ; class A.L < A.K > ; inst A.L Int/0 ; inst A.K Int/0"},
	})
}
