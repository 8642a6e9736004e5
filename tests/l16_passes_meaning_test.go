package tests

import (
	"math/rand/v2"
	"slices"
	"sync"
	"testing"

	"loop.example/g00017/impl"
)

// passLists has each pass alone, and some in a row.
func passLists() [][]int64 {
	return [][]int64{
		{1}, {2}, {3}, {4}, {5}, {6},
		{1, 4}, {1, 5, 4, 2, 3, 6}, {6, 5, 4, 3, 2, 1}, {1, 2, 4, 1, 2, 4, 3, 5, 6, 6, 5, 3}, {4, 2, 4, 2, 4, 2, 6},
	}
}

// behind has what passes make of a term, one by one, each done once and once more.
func behind(t *testing.T, c impl.Core, list []int64) impl.Core {
	t.Helper()
	now := c
	for _, p := range list {
		one := impl.RunPass(now, p)
		if again := impl.RunPass(one.Core, p); one.Code != 0 || !impl.SameCore(again.Core, one.Core) {
			t.Errorf("%s done twice on %s\ngives %s, and once %s", impl.PassName(p), shortCore(now), shortCore(again.Core), shortCore(one.Core))
		}
		for _, name := range impl.FreeNames(one.Core) {
			if !slices.Contains(impl.FreeNames(now), name) {
				t.Errorf("behind %s %s stands free in %s,\nwhich was %s", impl.PassName(p), name, shortCore(one.Core), shortCore(now))
			}
		}
		now = one.Core
	}
	if all := impl.RunPasses(c, list); all.Code != 0 || !impl.SameCore(all.Core, now) {
		t.Errorf("passes %v of %s\ngive %s, and one by one %s", list, shortCore(c), shortCore(all.Core), shortCore(now))
	}
	return now
}

// mayStand answers whether a run may stand for another one behind passes. What is strict in something may ask for it ahead of an error of its own, and be stuck then, if it has no type.
func mayStand(a, b impl.Outcome, list []int64) bool {
	hasNoValue := slices.Contains([]int64{impl.EndError, impl.EndLoop, impl.EndSteps, impl.EndDeep}, a.End)
	if slices.Contains(list, impl.PassStrict) && hasNoValue && b.End == impl.EndStuck {
		return a.Out == b.Out || a.End == impl.EndSteps || a.End == impl.EndDeep
	}
	return impl.Stands(a, b)
}

// checkKept runs what passes make of a closed term, and answers how often it was another one.
func checkKept(t *testing.T, c impl.Core, mode int64, input string, steps int64, lists [][]int64) (outcome impl.Outcome, changed int) {
	t.Helper()
	a := impl.Meaning(c, mode, input, steps)
	for _, list := range lists {
		made := behind(t, c, list)
		if impl.SameCore(made, c) {
			continue
		}
		changed++
		if b := impl.Meaning(made, mode, input, min(steps*5, impl.MaxSteps)); !mayStand(a, b, list) || b.End == impl.EndBad {
			t.Errorf("%s\ntells %.300q %q, end %d, and behind %v, as %s\n%.300q %q, end %d", shortCore(c), a.Out, a.Error, a.End, list, shortCore(made), b.Out, b.Error, b.End)
		}
	}
	return a, changed
}

// Closed terms of each make, written out.
func TestPassesKeepTermsOfEachMake(t *testing.T) {
	t.Parallel()
	for _, text := range []string{
		`"text"`, `[]`, `(: 'a' "bc")`, `(primShow (primAdd 1 2))`, `(primShow (primMul (primSub 9 2) (primDiv 7 2)))`,
		`((\x -> x) "a")`, `((\x y -> y) 1 "a")`, `((\x y -> x) "a")`, `(((\x y -> x) "a") "b")`, `((\x -> x) (\y -> y) "a")`,
		`((\x -> ((\x -> x) x)) "a")`, `(let x = "a" in ((\y x -> y) x "b"))`, `(let x = "a" in ((\x y -> y) "b" x))`,
		`(let x = "a" in ((\y -> (\x -> y)) x "b"))`, `(let x = "a" in ((\x -> (\y -> y)) "b" x))`, `(let x = "a" in ((\x -> x) (\z -> z) x))`,
		`(case (: 'a' "b") of v { : x y -> (: x v); [] -> v })`, `(case (: 'a' "b") of { [] -> "c"; _ -> "d" })`, `(case (C "a" "b") of v { C x -> x; _ -> (case v of { C x y -> y }) })`,
		`(let a = "p"; b = "q" in (case (C b a) of { C a b -> (case (D a b) of { D b a -> a }) }))`,
		`(case (primEq 1 1) of { True -> "t"; False -> "f" })`, `(case (primLess 2 1) of v { True -> "t"; _ -> (case v of { False -> "f" }) })`,
		`(case 3 of v { _ -> (primShow v) })`, `(case 'c' of v { A -> "x"; _ -> (: v []) })`, `(case (\x -> x) of v { _ -> (v "a") })`, `(case 3 of { A -> "x" })`,
		`(primSeq (\x -> x) "a")`, `(primSeq (primError "no") "a")`, `(primSeq (C (primError "no")) "a")`, `(primSeq (primDiv 1 0) "a")`,
		`(primShow (primDiv 1 0))`, `(: (primChr 256) [])`, `(: 'a' (primShow (primMod 1 0)))`, `(primShow (primAdd 'a' 1))`,
		`(let x = (primError "no") in "a")`, `(let x = (primError "no"); y = x in (: 'a' "b"))`, `(let x = "a"; y = x; z = (primError y) in y)`,
		`(let x = (: 'a' x) in x)`, `(let x = (: 'a' y); y = (: 'b' x) in x)`, `(let x = x in x)`, `(let x = y; y = x in (: 'a' x))`, `(let x = y; y = "b" in x)`,
		`(let f = (\x -> (f x)) in (: 'a' (f 1)))`, `(let f = (\n -> (case (primLess n 1) of { True -> "."; False -> (: 'x' (f (primSub n 1))) })) in (f 5))`,
		`(let x = (primShow 12) in (case x of { [] -> "e"; : h t -> (: h x) }))`, `(let x = (primShow 12) in (let y = x in (let z = y in z)))`,
		`(let x = (primShow 1) in (let y = 2 in (let x = (primShow y) in x)))`, `(let x = (primAdd 1 2) in (let f = (\y -> (primAdd x y)) in (primShow (f (f x)))))`,
		`((let x = "a" in (\y -> x)) "b")`, `(let x = "b" in ((let x = "a" in (\y -> y)) x))`, `(case (let x = "a" in x) of { : h t -> (: h t) })`, `(let x = "b" in (case (let x = "a" in x) of v { : h t -> (: h x) }))`,
		`(let x = (primError "a") in (primAdd x (primError "b")))`, `(let x = (primError "a") in (let y = (primError "b") in (primSeq y x)))`, `(let x = (primError "a") in (: 'z' x))`,
		`(let x = (f 1); f = (\y -> "a") in x)`, `(let x = ((\y -> (y y)) (\y -> (y y))) in (: 'a' "b"))`, `(let x = (primShow 1) in (let x = (primError "e") in x))`,
	} {
		checkKept(t, readCore(text), 1, "", 20000, passLists())
	}
}

// Drawn closed terms.
func TestPassesKeepDrawnTerms(t *testing.T) {
	t.Parallel()
	var lock sync.Mutex
	ends, changes := map[int64]int{}, 0
	var all sync.WaitGroup
	for worker := range uint64(8) {
		all.Go(func() {
			m := newMeantMaker(1600 + worker)
			for i := range 150 {
				c, mode := m.drawn(3 + i%9)
				a, changed := checkKept(t, c, mode, "input", 1500, passLists())
				lock.Lock()
				ends[a.End]++
				changes += changed
				lock.Unlock()
			}
		})
	}
	all.Wait()
	for _, end := range []int64{impl.EndDone, impl.EndError, impl.EndLoop, impl.EndSteps, impl.EndStuck} {
		if ends[end] < 3 {
			t.Errorf("few end %d: %v", end, ends)
		}
	}
	if changes < 3000 {
		t.Errorf("%d were changed only", changes)
	}
}

// Names that stand free are none but those that did, in terms that have them.
func TestPassesLeaveNoNameFree(t *testing.T) {
	t.Parallel()
	m, other := newPassMaker(9), newCoreMaker(19)
	for i := range 1000 {
		behind(t, m.term(1+i%7), passLists()[i%11])
		behind(t, other.sound(2+i%5), passLists()[i%11])
	}
}

// Cores of whole programs.
func TestPassesKeepWholePrograms(t *testing.T) {
	t.Parallel()
	var all sync.WaitGroup
	for i, p := range toldPrograms() {
		all.Go(func() {
			c, mode := programCore(t, p.main)
			lists := passLists()
			if i%3 > 0 {
				lists = lists[6:]
			}
			_, changed := checkKept(t, c, mode, p.input, impl.MaxSteps/4, lists)
			if changed < 3 {
				t.Errorf("%s is changed by %d lists of passes only", p.main, changed)
			}
		})
	}
	all.Wait()
}

func TestPassesKeepDrawnPrograms(t *testing.T) {
	t.Parallel()
	m := &runMaker{Rand: rand.New(rand.NewPCG(16, 1))}
	for i := range 12 {
		list := []impl.Node{parsed(t, m.module(5, 12))}
		p := runProgramOf(list, "M.f6")
		for at, typed := range impl.InferProgram(list).Types[5:] {
			letter := letterOf(typed.Scheme)
			if letter == "" || (i+at)%3 > 0 {
				continue
			}
			c := p.core
			c.Kids = slices.Clone(c.Kids)
			c.Kids[len(c.Kids)-1] = shownCore(letter, coreVar(typed.Name))
			checkKept(t, c, 1, "", 20000, passLists()[(i*5+at)%11:(i*5+at)%11+1])
		}
	}
}
