package tests

import (
	"fmt"
	"strconv"
	"strings"
	"testing"

	"loop.example/g00017/impl"
)

// toldOf is the type of one thing of a module, or all that is told if there is no such thing.
func toldOf(t *testing.T, text, name string) string {
	t.Helper()
	r := impl.InferProgram([]impl.Node{parsed(t, "module M where {"+text+"}")})
	for _, x := range r.Types {
		if x.Name == "M."+name {
			return impl.FormatScheme(x.Scheme)
		}
	}
	return toldTypes(r)
}

func checkToldOf(t *testing.T, name string, rows [][2]string) {
	t.Helper()
	for _, row := range rows {
		if got := toldOf(t, row[0], name); got != row[1] {
			t.Errorf("%.300s\nis %.300s, not %.300s", row[0], got, row[1])
		}
	}
}

// numberedNames has names with a number each, with something between.
func numberedNames(name string, count int, between string) string {
	var names []string
	for i := range count {
		names = append(names, name+strconv.Itoa(i))
	}
	return strings.Join(names, between)
}

// lists has things of which each is a list of the one ahead.
func lists(count int) string {
	text := "f0 = 1"
	for i := 1; i <= count; i++ {
		text += fmt.Sprintf(" ; f%d = [ f%d ]", i, i-1)
	}
	return text
}

// pairs has things t0 to tn, of 1, 3, 7, .. nodes.
func pairs(last int) string {
	text := "t0 = 1 ; "
	for i := 1; i <= last; i++ {
		text += fmt.Sprintf("t%d = ( t%d , t%d ) ; ", i, i-1, i-1)
	}
	return text
}

func TestTypesAreNoDeeperThanTheyMayBe(t *testing.T) {
	deep := strings.Repeat("[", impl.MaxDeep-1) + "Int" + strings.Repeat("]", impl.MaxDeep-1)
	arrows := strings.Repeat("a -> ", impl.MaxDeep-1) + "Int"
	checkToldOf(t, "f199", [][2]string{{lists(199), deep}, {lists(200), "?M.f200"}, {lists(199) + " ; g = f199", deep}, {lists(199) + " ; g x = f199", "?M.g"}, {lists(199) + " ; g x = [ f199 ]", "?M.g"}})
	checkToldOf(t, "g", [][2]string{
		{lists(199) + " ; g = let { x = f199 } in 1", "Int"},
		{lists(199) + " ; g = let { x = [ f199 ] } in 1", "?M.g"},
		{lists(199) + " ; g = let { x y = f199 } in 1", "?M.g"},
		{lists(198) + " ; g = let { x y = f198 } in 1", "Int"},
		{lists(199) + " ; g = \\ x -> f199", "?M.g"},
		{lists(199) + " ; g = case f199 of { _ -> 1 }", "Int"},
		{lists(199) + " ; g = case f199 of { ! _ -> 1 ; ~ x -> 2 ; x @ _ -> 3 ; [ y ] -> 4 }", "Int"},
		{lists(199) + " ; g = case 1 of { x | [ f199 ] -> 1 }", "?M.g"},
		{lists(199) + " ; g = [ 1 | x <- f199 , y <- x ]", "[Int]"},
		{lists(199) + " ; g = [ f199 | x <- f199 ]", "?M.g"},
		{lists(199) + " ; g = [ 1 | [ x ] <- [ f199 ] ]", "?M.g"},
		{lists(199) + " ; g = primSeq f198 1", "Int"},
		{lists(199) + " ; g = primSeq f199 1", "?M.g"},
		{lists(199) + " ; g = primSeq [ f199 ] 1", "?M.g"},
		{lists(198) + " ; class C a where { m :: a -> Int } ; instance C Int where { m x = primSeq f198 x } ; g = 1", "Int"},
		{lists(200) + " ; class C a where { m :: a -> Int } ; instance C Int where { m x = x } ; g = 1", "?M.f200"},
		{lists(199) + " ; class C a where { m :: a -> Int } ; instance C Int where { m x = primSeq [ f199 ] x } ; g = 1", "?M.C"},
	})
	checkToldOf(t, "f", [][2]string{
		{"f " + strings.Repeat("_ ", 200) + "= 1", "?M.f"},
		{"f " + strings.Repeat("_ ", 199) + "= [ 1 ]", "?M.f"},
		{"f = case ( \\ " + strings.Repeat("_ ", 199) + "-> 1 ) of { _ -> 1 }", "Int"},
		{"f = case ( \\ " + strings.Repeat("_ ", 200) + "-> 1 ) of { _ -> 1 }", "?M.f"},
		{"data D = D " + strings.Repeat("Int ", 199) + "; f = case D of { _ -> 1 }", "Int"},
		{"data D = D " + strings.Repeat("Int ", 200) + "; f = case D of { _ -> 1 }", "?M.f"},
		{"data D = D " + strings.Repeat("Int ", 200) + "; f = D " + strings.Repeat("1 ", 200), "?M.f"},
		{"data D = D " + strings.Repeat("Int ", 500) + "; f ( D " + strings.Repeat("_ ", 499) + "1 ) = 1", "D -> Int"},
		{"data D a = D " + strings.Repeat("a ", 198) + "; f = D", strings.Repeat("a -> ", 198) + "D a"},
		{"data D a = D " + strings.Repeat("a ", 199) + "; f = D", "?M.f"},
	})
	if got := toldOf(t, "f "+numberedNames("x", 199, " ")+" = case [ "+numberedNames("x", 199, " , ")+" ] of { _ -> 1 }", "f"); got != arrows {
		t.Errorf("is %s", got)
	}
}

func TestTypesAreNoLargerThanTheyMayBe(t *testing.T) {
	whole := "( t13 , t10 , t9 , t8 , t4 , t1 , "
	count := func(text string) string {
		r := impl.InferProgram([]impl.Node{parsed(t, "module M where {"+pairs(13)+text+"}")})
		if r.Code != 0 {
			return toldTypes(r)
		}
		size, _ := typeMeasures(r.Types[len(r.Types)-1].Scheme.Type)
		return strconv.Itoa(size)
	}
	for _, row := range [][2]string{
		{"f = " + whole + "1 )", "20000"},
		{"f = " + whole + "[ 1 ] )", "?M.f"},
		{"f = " + whole + "[ ] )", "?M.f"},
		{"f = case " + whole + "1 ) of { _ -> 1 }", "1"},
		{"f = case " + whole + "[ 1 ] ) of { _ -> 1 }", "?M.f"},
		{"f = case [ " + whole + "1 ) ] of { _ -> 1 }", "?M.f"},
		{"f = 1 where { g = " + whole + "1 ) }", "1"},
		{"f = 1 where { g = [ " + whole + "1 ) ] }", "?M.f"},
		{"f = 1 where { g x = ( x , t13 ) }", "1"},
		{"f = 1 where { g x = ( x , t13 , t12 ) }", "?M.f"},
		{"f = ( t13 , t13 )", "?M.f"},
		{"f x = case x of { y -> t13 }", "16385"},
		{"f x = ( x t13 , t10 )", "18435"},
		{"f x = ( x t13 , x t13 , t12 )", "?M.f"},
		{"f = [ t13 , t13 , t13 ]", "16384"},
		{"f = t13 ; g = t14", "??t14"},
		{"f = t13 ; g x = ( f , x ) ; h = g t11", "?M.h"},
		{"f = t13 ; g x = ( f , x ) ; h = g t10", "?M.h"},
		{"f = t13 ; g x = ( f , x ) ; h = g t9", "17407"},
	} {
		if got := count(row[0]); got != row[1] {
			t.Errorf("%s is %s", row[0], got)
		}
	}
	// Each is the one ahead of it done twice: of 2, 4, 16, 256, .. parts.
	checkTypes(t, "f0 x = ( x , x ) ; f1 x = f0 ( f0 x ) ; f2 x = f1 ( f1 x ) ; ", [][2]string{
		{"f3 x = f2 ( f2 x ) ; f4 x = f3 ( f3 x )", "?M.f4"},
		{"f3 x = f2 ( f2 x ) ; f4 = f3 f3", "?M.f4"},
		{"f3 x = case f2 ( f2 ( f2 x ) ) of { _ -> 1 }", "f0 :: a -> (a, a); f1 :: a -> ((a, a), (a, a)); f2 :: a -> ((((a, a), (a, a)), ((a, a), (a, a))), (((a, a), (a, a)), ((a, a), (a, a)))); f3 :: a -> Int"},
		{"f3 x = case f2 ( f2 ( f2 ( f2 x ) ) ) of { _ -> 1 }", "?M.f3"},
	})
}

const needsAhead = "class C a where { c :: a -> Int } ; instance C Int where { c x = x } ; instance ( C a , C b ) => C ( a , b ) where { c x = 1 } ; class K a where { k , l :: a -> Int } ; "

// As many needs come up at a type of pairs as it has nodes.
func TestNoMoreNeedsComeUpThanMay(t *testing.T) {
	most := "( c t13 , c t10 , c t9 , c t8 , c t4 , c t1 , "
	checkToldOf(t, "f", [][2]string{
		{needsAhead + pairs(13) + "f = case " + most + "( c 1 , c 1 ) ) of { _ -> 1 }", "Int"},
		{needsAhead + pairs(13) + "f = case " + most + "( c 1 , c 1 , c 1 ) ) of { _ -> 1 }", "?M.f"},
		{needsAhead + pairs(13) + "f = case " + most + "c t1 ) of { _ -> 1 }", "?M.f"},
		{needsAhead + pairs(13) + "f = c t13 ; g = c t13", "Int"},
		{needsAhead + pairs(13) + "f = g where { g = c t13 ; h x = c t12 }", "?M.f"},
		{needsAhead + pairs(13) + "f = g where { g = c t13 ; h x = c t10 }", "Int"},
		{needsAhead + pairs(13) + "f = g where { g = c t13 ; h :: Int -> Int ; h x = c t12 }", "?M.f"},
		{needsAhead + pairs(13) + "f x = case c t13 of { _ -> g x } ; g x = case c t12 of { _ -> f x }", "?M.f"},
		{needsAhead + pairs(13) + "f x = case c t13 of { _ -> g x } ; g x = case c t10 of { _ -> f x }", "a -> b"},
		{needsAhead + pairs(13) + "f :: Int ; f = primAdd ( c t13 ) ( c t12 )", "?M.f"},
		{needsAhead + pairs(13) + "f :: Int ; f = primAdd ( c t13 ) ( c t10 )", "Int"},
		{needsAhead + pairs(13) + "f = 1 ; instance K Int where { k x = c t13 ; l x = c t12 }", "?M.K"},
		{needsAhead + pairs(13) + "f = 1 ; instance K Int where { k x = c t13 ; l x = c t10 } ; instance K Char where { k x = c t13 ; l x = c t10 }", "Int"},
		{needsAhead + pairs(13) + "f x = let { g y = c y } in ( g t13 , g t10 )", "a -> (Int, Int)"},
		{needsAhead + pairs(13) + "f x = let { g = c } in g t13", "a -> Int"},
		{needsAhead + pairs(13) + "f x = let { g = \\ y -> primAdd ( c y ) ( c y ) } in g t13", "?M.f"},
		{needsAhead + pairs(13) + "f x = let { g = \\ y -> primAdd ( c y ) ( c y ) } in g t12", "a -> Int"},
	})
	// Each instance asks for two, so that a list of n levels needs 2^(n+1) - 1.
	two := "class C a where { c :: a -> Int } ; class D a where { d :: a -> Int } ; instance C Int where { c x = x } ; instance D Int where { d x = x } ; instance ( C a , D a ) => C [ a ] where { c x = 1 } ; instance ( C a , D a ) => D [ a ] where { d x = 1 } ; "
	for levels, want := range map[int]string{1: "Int", 13: "Int", 14: "?M.f", 100: "?M.f"} {
		if got := toldOf(t, two+"f = c "+strings.Repeat("[ ", levels)+"1"+strings.Repeat(" ]", levels), "f"); got != want {
			t.Errorf("%d levels: %s", levels, got)
		}
	}
	// Uses count, too, where nothing more is asked for.
	for count, want := range map[int]string{6666: "[Int]", 6667: "?M.f"} {
		text := "class E a where { e :: a } ; instance E Int where { e = 1 } ; g :: ( E a , E a , E a ) => a ; g = e ; f :: [ Int ] ; f = [ " + strings.Repeat("g , ", count-1) + "g ]"
		if got := toldOf(t, text, "f"); got != want {
			t.Errorf("%d uses: %s", count, got)
		}
	}
}

// The type of a method in an instance is the method's, with the instance's type for the class's variable.
func TestMethodsAreNoLargerThanTheyMayBe(t *testing.T) {
	for count, want := range map[int]string{196: "f :: Int", 197: "?M.C"} {
		variables := numberedNames("a", 100, " ")
		text := "class C a where { m :: " + strings.Repeat("a -> ", count-1) + "a } ; data T " + variables + " = T ; instance C ( T " + variables + " ) where { m = primError \"\" } ; f = 1"
		checkTypes(t, "", [][2]string{{text, want}})
	}
}
