package tests

import (
	"fmt"
	"math/rand/v2"
	"strings"
	"testing"

	"loop.example/g00017/impl"
)

// deepList is the text of a type of so many levels.
func deepList(levels int) string {
	return strings.Repeat("[", levels-1) + "Int" + strings.Repeat("]", levels-1)
}

// inLists is the text of an expression or a pattern within so many lists.
func inLists(text string, count int) string {
	return strings.Repeat("[ ", count) + text + strings.Repeat(" ]", count)
}

// What g takes has 150 levels.
var behindDeep = "g :: " + deepList(150) + " -> Int ; g x = 1 ; k x y = 1 ; yes x = True ; same x y = [ x , y ] ; class C a where { m :: a -> Int } ; "

// What t13 is has 16383 nodes.
var behindLarge = "k x y = 1 ; same x y = [ x , y ] ; " + pairs(13)

const behindSignature = "f :: # -> Int ; "

// behindCheck says whether f types, with its signature as without; the second reading must say the same.
func behindCheck(t *testing.T, ahead, signature, text string) bool {
	t.Helper()
	var good []bool
	for _, whole := range []string{ahead + text, ahead + signature + text} {
		list := []impl.Node{parsed(t, "module M where { "+whole+" }")}
		got, want := impl.InferProgram(list), inferSlowly(list)
		if inferredText(got) != inferredText(want) {
			t.Errorf("%.300s is %.200s, not %.200s", text, toldTypes(got), toldTypes(want))
		}
		good = append(good, got.Code == 0)
	}
	if good[0] != good[1] {
		t.Errorf("%.300s is %v, with a signature %v", text, good[0], good[1])
	}
	return good[0]
}

// What stands for # is within lists, z or w ahead of where z is known to be what g takes; it may be within so many and no more.
func TestTypesThatBecomeTooDeepBehind(t *testing.T) {
	signature := strings.Replace(behindSignature, "#", deepList(150), 1)
	for _, row := range []struct {
		text, held string
		most       int
	}{
		{"f z = k # ( g z )", "z", 49},
		{"f z = k ( g z ) #", "z", 48},
		{"f z = k ( k # 1 ) ( g z )", "z", 49},
		{"f z = case ( # , g z ) of { _ -> 1 }", "z", 49},
		{"f z = primSeq # ( g z )", "z", 49},
		{"f z = if yes # then g z else 2", "z", 49},
		{"f z = case # of { w -> g z }", "z", 50},
		{"f z = case # of { _ | True -> g z }", "z", 50},
		{"f z = case 1 of { 1 | yes # -> 1 ; _ -> g z }", "z", 49},
		{"f z = let { h = # } in g z", "z", 50},
		{"f z = let { h y = # } in g z", "z", 49},
		{"f z = let { h y = k # y } in h ( g z )", "z", 49},
		{"f z = let { h y = let { i x = k # x } in i y } in h ( g z )", "z", 49},
		{"f z = g z where { h y = k # y }", "z", 49},
		{"f z | yes 1 = h 1 | True = g z where { h y = k # y }", "z", 49},
		{"f z = let { h :: Int -> Int ; h y = k # y } in h ( g z )", "z", 49},
		{"f z = k ( \\ w -> # ) ( g z )", "z", 48},
		{"f z = k ( \\ w -> case # of { x -> 1 } ) ( g z )", "z", 50},
		{"f z = case [ 1 | w <- [ # ] , yes ( k w ( g z ) ) ] of { _ -> 1 }", "z", 49},
		{"f z = case [ # | True , w <- [ 1 ] ] of { _ -> g z }", "z", 49},
		{"f z = case [ 1 .. k # 2 ] of { _ -> g z }", "z", 49},
		{"f z = k ( \\ # -> k ( same z w ) 1 ) ( g z )", "w", 48},
		{"f z = k ( \\ y -> case y of { # -> same z w } ) ( g z )", "w", 48},
		{"f z = k ( case [ ] of { # -> same z w } ) ( g z )", "w", 50},
		{"f z = let { h # = same z w } in g z", "w", 49},
		{"f z = let { h ( # , _ ) = same z w } in g z", "w", 48},
		{"f z = let { h v @ ( ! # ) = same z w } in g z", "w", 49},
		{"f z = let { h ( ~ ( # : v ) ) = same z w } in g z", "w", 48},
		{"f z = k [ 1 | # <- [ ] , _ <- same z w ] ( g z )", "w", 49},
	} {
		for count := row.most - 1; count <= row.most+2; count++ {
			text := strings.ReplaceAll(row.text, "#", inLists(row.held, count))
			if good := behindCheck(t, behindDeep, signature, text); good != (count <= row.most) {
				t.Errorf("%s within %d: %v", row.text, count, good)
			}
		}
	}
}

func TestTypesThatBecomeTooLargeBehind(t *testing.T) {
	// With z as large as t11, of 4095 nodes, there is room for four of it.
	signature := strings.Replace(behindSignature, "#", toldOf(t, behindLarge, "t11"), 1)
	four, five := "k ( same z v ) ( k ( same z w ) ( k ( same z x ) ( same z y ) ) )", "k ( same z u ) ( k ( same z v ) ( k ( same z w ) ( k ( same z x ) ( same z y ) ) ) )"
	for _, row := range [][3]string{
		{"f z = k # ( same z t11 )", "( z , z , z )", "( z , z , z , z )"},
		{"f z = case # of { _ -> k 1 ( same z t11 ) }", "( z , z , z , z )", "( z , z , z , z , z )"},
		{"f z = let { h y = # } in k 1 ( same z t11 )", "( z , z , z , z )", "( z , z , z , z , z )"},
		{"f z = k ( \\ y -> # ) ( same z t11 )", "( z , z , z )", "( z , z , z , z )"},
		{"f z = k [ 1 | _ <- [ # ] , _ <- same z t11 ] 1", "( z , z , z , z )", "( z , z , z , z , z )"},
		{"f z = let { h ( u , v , w , x , y ) = # } in k 1 ( same z t11 )", four, five},
	} {
		for i, want := range []bool{true, false} {
			if good := behindCheck(t, behindLarge, signature, strings.ReplaceAll(row[0], "#", row[i+1])); good != want {
				t.Errorf("%s with %s: %v", row[0], row[i+1], good)
			}
		}
	}
}

// A type with exactly as many nodes as may be, and one more, of things that are told behind.
func TestTypesThatBecomeJustTooLargeBehind(t *testing.T) {
	known := "[ y | y <- [ z , t13 ] ]"
	checkToldOf(t, "f", [][2]string{
		{behindLarge + "f = let { h z = case ( z , t10 , t9 , t8 , t4 , t1 , 1 ) of { _ -> case " + known + " of { _ -> 1 } } } in 1", "Int"},
		{behindLarge + "f = let { h z = case ( z , t10 , t9 , t8 , t4 , t1 , [ 1 ] ) of { _ -> case " + known + " of { _ -> 1 } } } in 1", "?M.f"},
	})
}

// What is measured is what stands in the whole group, thing or instance; a thing that is used with other types has its own.
func TestTypesGrowBehindInOneUnit(t *testing.T) {
	deep := deepList(150)
	most, more := inLists("z", 49), inLists("z", 50)
	checkToldOf(t, "f", [][2]string{
		{behindDeep + "h z = case " + inLists("z", 60) + " of { _ -> z } ; f z = k ( h 1 ) ( g ( h z ) )", deep + " -> Int"},
		{behindDeep + "f z = let { h y = case " + inLists("y", 60) + " of { _ -> y } } in g ( h z )", deep + " -> Int"},
		{behindDeep + "f z = let { h y = case " + inLists("y", 60) + " of { _ -> same y z } } in g z", "?M.f"},
		{behindDeep + "f z = let { h y = case " + inLists("y", 50) + " of { _ -> same y z } } in g z", deep + " -> Int"},
		{behindDeep + "f z = k " + most + " ( h z ) ; h z = k ( f z ) ( g z )", deep + " -> Int"},
		{behindDeep + "f z = k " + more + " ( h z ) ; h z = k ( f z ) ( g z )", "?M.f"},
		{behindDeep + "f z = k ( h z ) ( g z ) ; h z = k " + more + " ( f z )", "?M.f"},
		{behindDeep + "f 1 z = k " + most + " 1 ; f x z = g z", "Int -> " + deep + " -> Int"},
		{behindDeep + "f 1 z = k " + more + " 1 ; f x z = g z", "?M.f"},
		{behindDeep + "f = 1 ; instance C Int where { m x = ( \\ z -> k " + most + " ( g z ) ) ( primError \"\" ) }", "Int"},
		{behindDeep + "f = 1 ; instance C Int where { m x = ( \\ z -> k " + more + " ( g z ) ) ( primError \"\" ) }", "?M.C"},
		{behindDeep + "f = 1 ; instance C [ a ] where { m x = let { h z = k " + more + " ( g z ) } in 1 }", "?M.C"},
		{behindDeep + "a z = k " + more + " ( g z ) ; f = 1", "?M.a"},
	})
}

// Variables of which each is a pair of the next grow without an end, though each step is small.
func TestTypesThatGrowInAChain(t *testing.T) {
	chain := func(count int) string {
		var parts []string
		for i := range count {
			parts = append(parts, fmt.Sprintf("x%d <- primError \"\"", i))
		}
		for i := 1; i < count; i++ {
			parts = append(parts, fmt.Sprintf("_ <- [ x%d , ( x%d , x%d ) ]", i-1, i, i))
		}
		return "f = [ 1 | " + strings.Join(parts, " , ") + " ]"
	}
	// x0 has 2^n - 1 nodes with n variables, and the type of primError there 4 more.
	checkToldOf(t, "f", [][2]string{{chain(14), "[Int]"}, {chain(15), "?M.f"}, {chain(60), "?M.f"}, {chain(1000), "?M.f"}})
	checkTypes(t, "", [][2]string{{chain(14), "f :: [Int]"}, {chain(15), "?M.f"}})
}

// Uses of z in any order have one answer: the bound is that of the types that all of them make together.
func TestSizesAreThoseOfAllUsesTogether(t *testing.T) {
	r := rand.New(rand.NewPCG(11, 37))
	seen := map[bool]int{}
	signature := strings.Replace(behindSignature, "#", deepList(150), 1)
	for range 30 {
		count := 42 + r.IntN(14)
		uses := []string{"g z", "k " + inLists("z", count) + " 1", "( \\ w -> same w " + inLists("z", r.IntN(20)) + " )", "let { h y = k y z } in h 1", "case z of { " + inLists("v", r.IntN(20)) + " -> 1 ; _ -> 2 }"}
		r.Shuffle(len(uses), func(i, k int) { uses[i], uses[k] = uses[k], uses[i] })
		text := "f z = case ( " + strings.Join(uses, " , ") + " ) of { _ -> 1 }"
		good := behindCheck(t, behindDeep, signature, text)
		seen[good]++
		if want := count <= 49; good != want {
			t.Errorf("%v: %v", uses, good)
		}
	}
	if seen[true] < 8 || seen[false] < 8 {
		t.Errorf("there are but %v", seen)
	}
}
