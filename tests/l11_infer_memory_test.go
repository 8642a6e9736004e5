package tests

import (
	"math/rand/v2"
	"slices"
	"strings"
	"sync"
	"testing"

	"loop.example/g00017/impl"
)

// A module with all forms, classes and dictionaries at each level.
const allForms = "module M where { class Eq a where { (==) , (/=) :: a -> a -> Bool } ; class ( Eq a , Show a ) => Ord a where { (<=) :: Show b => a -> b -> Bool } ; class Show a where { show :: a -> [ Char ] } ; instance Eq Int where { (==) = primEq ; x /= y = if x == y then False else True } ; instance Show Int where { show = primShow } ; instance ( Show a , Eq a ) => Show [ a ] where { show x | x == x = \"\" | True = show y where { y = [ x ] ; z :: Int ; z = 1 } } ; instance Eq a => Eq [ a ] where { [ ] == [ ] = True ; ( x : _ ) == ( y : _ ) = g x y where { g p q = p == q } ; (/=) = (==) } ; data T a = A | B a ( T a ) ; f , f2 :: ( Ord a , Eq b ) => a -> b -> ( a , b ) ; f x y = if x == x then f x y else ( x , y ) ; f2 = f ; g x = [ y | ( y , B 1 A ) <- x , y == y ] ; h ~( x , !y ) z@(B _ w) = case z of { B v _ | let { k a b = ( a == b , show x , m ) ; m = x } in case k 1 2 of { ( True , _ , _ ) -> x == v ; _ -> False } -> [ 1 .. 2 ] ; A -> [ - 1 ] } ; i = \\ x 'a' -> (primAdd x) ; j x = ( ( ) , \"ab\" , (x ==) , (== x) , j x ) ; l x = n x ; n x = if x == x then l x else True }"

func inferLists(t *testing.T) [][]impl.Node {
	t.Helper()
	lists := [][]impl.Node{nil, {}, {impl.Node{}}, modulesOf(t, allForms), modulesOf(t, strings.Replace(allForms, "- 1", "- 'a'", 1)), modulesOf(t, "module A where { f x = x x } module B where { import A }"), modulesOf(t, "module A where { f x = y }")}
	m := &progMaker{Rand: rand.New(rand.NewPCG(11, 4))}
	for range 12 {
		n := parsed(t, m.module())
		lists = append(lists, []impl.Node{n}, []impl.Node{m.spoiled(n)})
	}
	return lists
}

func TestInferringChangesNothing(t *testing.T) {
	behind := importing("Behind", "Nothing")
	for _, list := range inferLists(t) {
		own := make([]impl.Node, 0, len(list)+1)
		for _, n := range list {
			own = append(own, roomyTree(n))
		}
		own = append(own, behind)
		given := own[:len(list)]
		got := impl.InferProgram(given)
		if !slices.EqualFunc(given, list, sameSlowly) || slices.ContainsFunc(given, func(n impl.Node) bool { return !roomKept(n) }) || !sameSlowly(own[len(list)], importing("Behind", "Nothing")) {
			t.Errorf("%s is changed", kinded(tree(0, "", list...)))
		}
		if inferredText(got) != inferredText(impl.InferProgram(list)) {
			t.Errorf("%s hangs on what stands behind a list", kinded(tree(0, "", list...)))
		}
	}
}

// inferredMemory has where lists and texts of an answer lie.
func inferredMemory(r impl.InferResult) (lists, texts []memory) {
	lists, texts = slices.Concat(memoryOf(r.Types), memoryOf(r.Binds)), textMemory(r.Name)
	for _, x := range r.Types {
		moreLists, moreTexts := typesMemory([]impl.Type{x.Scheme.Type}, nil, x.Scheme.Preds)
		lists, texts = append(lists, moreLists...), slices.Concat(texts, moreTexts, textMemory(x.Name))
	}
	for _, d := range r.Binds {
		eachNode(d, func(n impl.Node) {
			lists, texts = append(lists, memoryOf(n.Kids)...), append(texts, textMemory(n.Name)...)
		})
	}
	return lists, texts
}

func spoilTree(n impl.Node) {
	for _, kid := range n.Kids {
		spoilTree(kid)
	}
	room := n.Kids[:cap(n.Kids)]
	for i := range room {
		room[i] = tree(-9, "spoilt")
	}
}

// sharing has a tree in which kids that are alike lie in one list.
func sharing(n impl.Node, known map[string][]impl.Node) impl.Node {
	own := tree(n.Kind, n.Name)
	for _, kid := range n.Kids {
		own.Kids = append(own.Kids, sharing(kid, known))
	}
	key := impl.Show(tree(0, "", own.Kids...))
	if _, again := known[key]; !again {
		known[key] = own.Kids
	}
	own.Kids = known[key]
	return own
}

func TestInferredAnswersAreNewMemory(t *testing.T) {
	codes := map[int64]int{}
	for _, list := range inferLists(t) {
		known := map[string][]impl.Node{}
		var shared []impl.Node
		for _, n := range list {
			shared = append(shared, sharing(n, known))
		}
		for _, own := range [][]impl.Node{cloneTrees(list), shared} {
			got := impl.InferProgram(own)
			want := inferredText(got)
			codes[got.Code]++
			lists, texts := inferredMemory(got)
			if !apart(lists) {
				t.Errorf("%s: two lists share memory", want)
			}
			var given []memory
			for _, text := range textsIn(tree(0, "", own...), nil) {
				given = append(given, textMemory(text)...)
			}
			if touches(texts, given) {
				t.Errorf("%s: a text lies in an argument", want)
			}
			for _, x := range got.Types {
				spoilType(x.Scheme.Type)
				clear(x.Scheme.Preds[:cap(x.Scheme.Preds)])
			}
			spoilTree(tree(0, "", got.Binds...))
			clear(got.Types[:cap(got.Types)])
			if !slices.EqualFunc(own, list, sameSlowly) || inferredText(impl.InferProgram(own)) != want {
				t.Errorf("%s is told another way behind a change of it", want)
			}
		}
	}
	if codes[0] == 0 || codes[1] == 0 || codes[2] == 0 {
		t.Errorf("codes %v", codes)
	}
}

func TestBuiltinTypesAreNewMemory(t *testing.T) {
	for _, name := range impl.BuiltinNames() {
		first, second := impl.BuiltinType(name), impl.BuiltinType(name)
		want := schemeText(first)
		lists, _ := typesMemory([]impl.Type{first.Type}, nil, first.Preds)
		others, _ := typesMemory([]impl.Type{second.Type}, nil, second.Preds)
		if !apart(slices.Concat(lists, others)) {
			t.Errorf("%s: two lists share memory", name)
		}
		spoilType(first.Type)
		if schemeText(second) != want || schemeText(impl.BuiltinType(name)) != want {
			t.Errorf("%s is changed", name)
		}
	}
}

func TestKindOfMainChangesNothing(t *testing.T) {
	r := impl.InferProgram(modulesOf(t, "module Main where { f x = x ; main x = primAppend x \"\" }"))
	twin := impl.InferProgram(modulesOf(t, "module Main where { f x = x ; main x = primAppend x \"\" }"))
	if impl.MainKind(r) != 2 || inferredText(r) != inferredText(twin) || impl.MainKind(r) != 2 {
		t.Error("it is changed")
	}
}

// All calls at once answer what each alone does.
func TestInferringAtOnce(t *testing.T) {
	lists := inferLists(t)
	want := make([]string, len(lists))
	for i, list := range lists {
		want[i] = inferredText(impl.InferProgram(list))
	}
	var all sync.WaitGroup
	for i, list := range lists {
		for range 2 {
			all.Go(func() {
				if got := inferredText(impl.InferProgram(list)); got != want[i] {
					t.Errorf("at once it is %s", got)
				}
			})
		}
	}
	all.Wait()
}
