package tests

import (
	"math/rand/v2"
	"slices"
	"strings"
	"sync"
	"testing"

	"loop.example/g00017/impl"
)

// A sugarCall has the arguments of CoreOf.
type sugarCall struct {
	list []impl.Node
	main string
}

func (c sugarCall) answer() string { return coreText(impl.CoreOf(c.list, c.main)) }

func (c sugarCall) text() string {
	return strings.Join(textsOf(c.list, impl.Print), " ") + " " + c.main
}

// comprehensions and ranges, which the module with all forms has few of.
const moreForms = "module M where { f xs = [ ( x , y , [ x .. y ] ) | x <- xs , primLess x 3 , [ y ] <- [ [ x ] , [ ] ] , ~( a , _ ) <- [ ( 1 , \"s\" ) ] ] ; g ~x@( y : ~( z , 'c' ) : _ ) = let { h 1 = primAdd ; h _ = \\ a b -> primSub a b } in ( h , y , z , B , B 1 , C , \"\" , \"text\" , - 123456789012345678901234567890 ) ; data D = A | B Int Int | C deriving ( Eq , Show ) ; class Eq a where { (==) :: a -> a -> Bool } ; class Show a where { show :: a -> [ Char ] } ; instance Eq Int where { (==) = primEq } ; instance Show Int where { show = primShow } }"

// sugarCalls has calls with a term and without.
func sugarCalls(t *testing.T) []sugarCall {
	t.Helper()
	lists := append(inferLists(t), modulesOf(t, moreForms), modulesOf(t, "module A where { f = 1 } module B where { import A ; g = f }"))
	m := &progMaker{Rand: rand.New(rand.NewPCG(14, 2))}
	for range 6 {
		lists = append(lists, []impl.Node{parsed(t, m.module())})
	}
	var calls []sugarCall
	for i, list := range lists {
		binds := impl.InferProgram(list).Binds
		calls = append(calls, sugarCall{list, "M.none"})
		if len(binds) > 0 {
			calls = append(calls, sugarCall{list, binds[i%len(binds)].Name}, sugarCall{list, binds[len(binds)-1].Name})
		}
	}
	return calls
}

// clone copies the arguments, with something in the room behind each list.
func (c sugarCall) clone() sugarCall {
	return sugarCall{roomy(c.list, tree(-7, "behind"), func(n impl.Node) impl.Node { return roomyTree(cloneTree(n)) }), strings.Clone(c.main)}
}

func (c sugarCall) isKept(own sugarCall) bool {
	changed := func(n impl.Node) bool { return !roomKept(n) }
	return slices.EqualFunc(own.list, c.list, sameSlowly) && !slices.ContainsFunc(own.list, changed) && isBehind(roomBehind(own.list)) && own.main == c.main
}

func TestDesugaringChangesNothing(t *testing.T) {
	t.Parallel()
	terms := map[bool]int{}
	for _, c := range sugarCalls(t) {
		own := c.clone()
		got := own.answer()
		terms[got != coreText(impl.Core{})]++
		if !c.isKept(own) {
			t.Errorf("%s is changed", c.text())
		}
		if got != c.answer() || got != own.answer() {
			t.Errorf("%s hangs on what stands behind a list", c.text())
		}
	}
	if terms[true] < 30 || terms[false] < 30 {
		t.Errorf("there are %v", terms)
	}
}

func TestDesugaredAnswersAreNewMemory(t *testing.T) {
	t.Parallel()
	for _, c := range sugarCalls(t) {
		known := map[string][]impl.Node{}
		shared := sugarCall{main: c.main}
		for _, n := range c.list {
			shared.list = append(shared.list, sharing(n, known))
		}
		want := c.answer()
		for _, own := range []sugarCall{c.clone(), shared} {
			got := impl.CoreOf(own.list, own.main)
			again := impl.CoreOf(own.list, own.main)
			lists, texts := coreMemory(got)
			others, _ := coreMemory(again)
			if !apart(slices.Concat(lists, others)) {
				t.Errorf("%s: two lists share memory", c.text())
			}
			given := textMemory(own.main)
			var held []memory
			for _, n := range own.list {
				eachNode(n, func(n impl.Node) {
					held = append(held, memoryOf(n.Kids)...)
					given = append(given, textMemory(n.Name)...)
				})
			}
			if touchesAny(lists, held) || touchesAny(texts, given) {
				t.Errorf("%s: an answer shares memory with an argument", c.text())
			}
			spoilCore(got)
			if coreText(again) != want || own.answer() != want || !slices.EqualFunc(own.list, c.list, sameSlowly) {
				t.Errorf("%s is told another way behind a change of what was told", c.text())
			}
		}
	}
}

// touchesAny says what touches does, of many spans.
func touchesAny(some, others []memory) bool {
	all := slices.Clone(others)
	if !apart(all) { // texts may be held in many places
		all = slices.CompactFunc(all, func(a, b memory) bool { return a == b })
	}
	return slices.ContainsFunc(some, func(m memory) bool {
		at, _ := slices.BinarySearchFunc(all, m, func(o, m memory) int {
			if o.to <= m.from {
				return -1
			}
			return 1
		})
		return at < len(all) && all[at].from < m.to
	})
}

// All calls at once answer what each alone does.
func TestDesugaringAtOnce(t *testing.T) {
	t.Parallel()
	calls := sugarCalls(t)
	want := make([]string, len(calls))
	for i, c := range calls {
		want[i] = c.answer()
	}
	var all sync.WaitGroup
	for worker := range 4 {
		all.Go(func() {
			for i := range calls {
				at := (i*5 + worker*11) % len(calls)
				if got := calls[at].answer(); got != want[at] {
					t.Errorf("at once it is %s, not %s", got, want[at])
				}
			}
		})
	}
	all.Wait()
}
