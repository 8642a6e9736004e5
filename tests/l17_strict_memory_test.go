package tests

import (
	"fmt"
	"slices"
	"strings"
	"sync"
	"testing"

	"loop.example/g00017/impl"
)

// A strictCall has a term and names.
type strictCall struct {
	c     impl.Core
	names []string
}

func (c strictCall) answers() string {
	var told []bool
	for _, name := range c.names {
		told = append(told, impl.StrictIn(c.c, name))
	}
	return fmt.Sprint(told)
}

// strictCalls has terms with faults and without, strict in names and not.
func strictCalls() []strictCall {
	m, spoiler := newPassMaker(1760), newCoreMaker(1761)
	names := []string{"a", "a'", "b", "c", "x", "nowhere", ""}
	var calls []strictCall
	for _, c := range append(plainCores(), impl.Core{}) {
		calls = append(calls, strictCall{c, names})
	}
	for i := range 400 {
		c := m.strictTerm(1 + i%5)
		if i%3 == 1 {
			c = m.term(1 + i%5)
		}
		calls = append(calls, strictCall{c, names}, strictCall{spoiler.spoilt(c), names})
	}
	return calls
}

func TestStrictInChangesNothing(t *testing.T) {
	for _, c := range strictCalls() {
		own := roomyCore(c.c)
		got := strictCall{own, c.names}.answers()
		if coreText(own) != coreText(c.c) || !coreRoomKept(own) {
			t.Errorf("%s is changed", coreText(c.c))
		}
		if got != c.answers() {
			t.Errorf("what is told of %s hangs on what stands behind a list", coreText(c.c))
		}
	}
}

// Lists and texts that stand in many places of a term are those places' own: names are held against each other by what they are.
func TestStrictInSharedTerms(t *testing.T) {
	for _, c := range strictCalls() {
		want := c.answers()
		var cloned []string
		for _, name := range c.names {
			cloned = append(cloned, strings.Clone(name))
		}
		if got := (strictCall{cloneCore(c.c), cloned}).answers(); got != want {
			t.Errorf("a copy of %s answers %s, not %s", coreText(c.c), got, want)
		}
	}
	kids := []impl.Core{coreVar("x"), coreVar("y"), coreInt(1)}
	let := impl.Core{Kind: impl.CLet, Names: []string{"y", "z"}, Kids: kids}
	shared := impl.Core{Kind: impl.CLet, Names: let.Names, Kids: []impl.Core{let, {Kind: impl.CApp, Kids: kids}, {Kind: impl.CPrim, Name: "primAdd", Kids: kids[:2]}}}
	if !impl.StrictIn(shared, "x") || impl.StrictIn(shared, "y") || impl.StrictIn(let, "x") {
		t.Error("a term with one list in several places")
	}
}

// Calls at the same time and in any order answer alike, and again.
func TestStrictInHangsOnArgumentsAlone(t *testing.T) {
	t.Parallel()
	calls := strictCalls()
	var want []string
	for _, c := range calls {
		want = append(want, c.answers())
	}
	var all sync.WaitGroup
	for worker := range 6 {
		all.Go(func() {
			for i := range calls {
				at := (i*7 + worker) % len(calls)
				if got := calls[at].answers(); got != want[at] {
					t.Errorf("%s answers another way", coreText(calls[at].c))
				}
			}
		})
	}
	all.Wait()
}

// Sets of names are gone through in no order; what is told hangs on none.
func TestStrictInAnswersAlikeAgain(t *testing.T) {
	t.Parallel()
	names := namesUpTo(40)
	var vars []impl.Core
	for _, name := range names {
		vars = append(vars, coreVar(name))
	}
	strict := manyLet(names, func(i int) impl.Core {
		return corePrim("primAdd", vars[i*7%40], vars[(i+1)%40])
	}, vars[3])
	strict.Kids[29] = coreCase("", []impl.Core{sumOf(vars), coreVar("x")}, coreAlt("A n1", sumOf(append(slices.Clone(vars[20:]), coreVar("x")))))
	lazy := cloneCore(strict)
	lazy.Kids[29] = coreCon("C", coreVar("x"))
	for range 2000 {
		if !impl.StrictIn(strict, "x") || impl.StrictIn(lazy, "x") || impl.StrictIn(strict, "n1") {
			t.Fatal("it is told another way")
		}
	}
}

// Terms that come back to themselves, or are far too large or deep, have a fault.
func TestStrictInEndlessTerms(t *testing.T) {
	x, failing := coreVar("x"), corePrim("primError", coreInt(1))
	far := raised(x, 100000, coreLevels()["function"])
	wide := coreApp(slices.Repeat([]impl.Core{x}, 300000)...)
	for i, c := range []impl.Core{roundCore(1, false), roundCore(3, true), roundCore(1000, false), roundCore(2, false, failing), roundCore(2, true, failing), far, wide, corePrim("primError", roundCore(1, false)), coreApp(x, roundCore(1, true, x))} {
		if impl.StrictIn(c, "x") || impl.StrictIn(c, "") || impl.StrictIn(c, "R") {
			t.Errorf("term %d is strict", i)
		}
	}
}
