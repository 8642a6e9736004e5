package tests

import (
	"slices"
	"strings"
	"testing"

	"loop.example/g00017/impl"
)

// endlessRuns has terms that never end and hold little: they take all steps in any heap.
func endlessRuns() map[string]string {
	return map[string]string{
		"no work":          `(let f = (\x -> (f x)) in (f 1))`,
		"a count":          `(let f = (\n -> (case n of m { _ -> (f (primAdd m 1)) })) in (f 1))`,
		"a pair":           `(let f = (\p -> (case p of { P a b -> (f (P b a)) })) in (f (P 1 2)))`,
		"lists made anew":  `(let f = (\l -> (case l of { : h r -> (f (: h (: h []))) })) in (f "a"))`,
		"functions":        `(let f = (\g -> (primSeq (g 1) (f (\y -> (primAdd y 1))))) in (f (\y -> y)))`,
		"partial calls":    `(let f = (\a b c -> (((f b) c) a)) in (f 1 2 3))`,
		"texts":            `(let f = (\n -> (case "twenty chars of text" of { : h r -> (f r) })) in (f 1))`,
		"numbers shown":    `(let f = (\n -> (primSeq (primShow n) (f n))) in (f 12345678901234567890))`,
		"things in rounds": `(let f = (\n -> (let x = (: 1 y); y = (: n x) in (case x of { : h r -> (f h) }))) in (f 1))`,
		"great products":   `(let f = (\n -> (primSeq (primMul n n) (f n))) in (f 123456789012345678901234567890123456789012345678901234567890))`,
	}
}

// The most steps, in the least heap and in the greatest one.
func TestMostStepsOfRuns(t *testing.T) {
	t.Parallel()
	for what, text := range endlessRuns() {
		list := impl.FormsOf(readCore(text))
		var all []impl.RunResult
		for _, heap := range []int64{100, 1000, impl.MaxHeap} {
			got := impl.RunForms(list, 1, "", impl.MaxSteps, heap)
			if want := (impl.Outcome{End: impl.EndSteps, Steps: impl.MaxSteps}); got.Outcome != want || got.Peak > heap || got.Made > heap && got.Collections == 0 {
				t.Errorf("%s in a heap of %d answers %s", what, heap, shortRun(got))
			}
			all = append(all, got)
		}
		if all[0].Made != all[2].Made || all[0].Updates != all[2].Updates || all[1].Made != all[2].Made {
			t.Errorf("%s hangs on the heap: %s, %s", what, shortRun(all[0]), shortRun(all[2]))
		}
		if what != "no work" && all[0].Collections < 1000 {
			t.Errorf("%s makes few collections: %s", what, shortRun(all[0]))
		}
		slowRun{list, 1, "", 3000, 100}.check(t)
	}
}

// The greatest heap is filled, held, and gone through for as long as may be.
func TestFullHeaps(t *testing.T) {
	t.Parallel()
	// A list of 60000 numbers, of which each has two cells of its own, is made, held, and gone through again and again.
	const count = "60000"
	text := `(let from = (\n l -> (case (primEq n 0) of { True -> l; False -> (case (primSub n 1) of m { _ -> (from m (: m l)) }) })); go = (\l k -> (case k of { [] -> (go l l); : h r -> (go l r) })) in (case (from ` + count + ` []) of l { _ -> (go l l) }))`
	list := impl.FormsOf(readCore(text))
	for _, heap := range []int64{120010, 150000, impl.MaxHeap} {
		got := impl.RunForms(list, 1, "", impl.MaxSteps, heap)
		if got.Outcome.End != impl.EndSteps || got.Collections == 0 || got.Peak > heap {
			t.Errorf("in a heap of %d answers %s", heap, shortRun(got))
		}
	}
	if got := impl.RunForms(list, 1, "", impl.MaxSteps, 120000); got.Outcome.End != impl.EndHeap || got.Peak != 120000 {
		t.Errorf("in a heap of 120000 answers %s", shortRun(got))
	}
	// A list that grows for good ends where the heap does.
	grows := impl.FormsOf(readCore(`(let f = (\l -> (primSeq l (f (: 1 l)))) in (f []))`))
	for _, heap := range []int64{100, 101, 1000, impl.MaxHeap} {
		got := slowRun{grows, 1, "", impl.MaxSteps, heap}.answer()
		if got.Outcome.End != impl.EndHeap || got.Peak != heap || got.Made > 2*heap {
			t.Errorf("in a heap of %d answers %s", heap, shortRun(got))
		}
	}
	slowRun{grows, 1, "", impl.MaxSteps, 1000}.check(t)
	// The longest input is read to its end.
	length := impl.FormsOf(readCore(`(let len = (\l n -> (case l of { [] -> (primShow n); : h r -> (case (primAdd n 1) of m { _ -> (len r m) }) })) in (\x -> (len x 0)))`))
	for _, heap := range []int64{2*impl.MaxSource + 10, impl.MaxHeap} {
		if got := impl.RunForms(length, 2, strings.Repeat("z", impl.MaxSource), impl.MaxSteps, heap); got.Outcome.Out != "60000" || got.Outcome.End != impl.EndDone {
			t.Errorf("the length of the longest input answers %s", shortRun(got))
		}
	}
}

// wideRuns has terms with very many kids, which run without end or until the heap is full.
func wideRuns(wide int) map[string]impl.Core {
	x, zero := coreVar("x"), coreInt(0)
	names := namesUpTo(wide)
	var variables []impl.Core
	for _, name := range names {
		variables = append(variables, coreVar(name))
	}
	several := slices.Repeat([]impl.Core{x}, wide)
	again := coreApp(manyTerms(coreVar("f"), variables)...)
	lets := impl.Core{Kind: impl.CLet, Names: names, Kids: append(slices.Repeat([]impl.Core{zero}, wide), coreApp(coreVar("f"), variables[wide-1]))}
	return map[string]impl.Core{
		"many fields":       seqLoop(coreCon("C", several...), x, zero),
		"many fields, kept": loopOf(coreApp(coreVar("f"), coreCon("C", several...)), zero),
		"many arguments":    coreLet("f", impl.Core{Kind: impl.CLam, Names: names, Kids: []impl.Core{again}}, coreApp(manyTerms(coreVar("f"), slices.Repeat([]impl.Core{zero}, wide))...)),
		"many names":        loopOf(lets, zero),
	}
}

func TestRunsOfWideTerms(t *testing.T) {
	t.Parallel()
	for _, c := range wideRuns(30) {
		r := slowRun{impl.FormsOf(c), 1, "", 3000, 100}
		for _, heap := range []int64{100, 150, 1000} {
			r.heap = heap
			r.check(t)
		}
	}
	for what, c := range wideRuns(3000) {
		list := impl.FormsOf(c)
		for _, heap := range []int64{100, impl.MaxHeap} {
			got := impl.RunForms(list, 1, "", 60000, heap)
			if got.Outcome.End != impl.EndSteps && got.Outcome.End != impl.EndHeap || got.Peak > heap {
				t.Errorf("%s in a heap of %d answers %s", what, heap, shortRun(got))
			}
		}
	}
	// What is asked of a case is found soon among very many alternatives.
	choice := impl.Code{Kind: impl.KCase, A: -1, Kids: []impl.Code{{Kind: impl.KCon, Name: "n8999"}}}
	for _, name := range namesUpTo(9000) {
		choice.Alts = append(choice.Alts, impl.CodeAlt{Con: name, Body: readCode("(app s0 s0)")})
	}
	list := append(readForms("0 0 0 1 (let s0 (make 1) (app s0 s0))"), impl.Form{Params: 1, Slots: 1, Body: choice})
	if got := impl.RunForms(list, 1, "", impl.MaxSteps, 100); got.Outcome.Steps != impl.MaxSteps {
		t.Errorf("many alternatives answer %s", shortRun(got))
	}
}

// Cells with very many fields that are not held take no memory for good, long before the heap is full. (No other test is to run beside it.)
func TestRoomOfWideCells(t *testing.T) {
	wide := impl.Code{Kind: impl.KCon, Name: "C", Refs: slices.Repeat([]int64{0}, 20000)}
	list := append(readForms("0 0 0 2 (let s0 (make 1) 7 (app s0 s0 s1))"), impl.Form{Params: 2, Slots: 2, Body: impl.Code{Kind: impl.KCase, A: -1, Kids: []impl.Code{wide, readCode("(app s0 s0 s1)")}}})
	var got impl.RunResult
	const steps = 90000
	room := allocated(func() { got = impl.RunForms(list, 1, "", steps, impl.MaxHeap) })
	if want := (impl.RunResult{Outcome: impl.Outcome{End: impl.EndSteps, Steps: steps}, Made: 2 + (steps-1)/3, Peak: 2 + (steps-1)/3}); got != want || room > 1<<28 {
		t.Errorf("answers %s in %d bytes", shortRun(got), room)
	}
}

// Slots that no code names take no memory, however much waits. (No other test is to run beside it.)
func TestRoomOfSlots(t *testing.T) {
	list := readForms("0 0 0 20000 (let s0 (make 1) (app s0 s0))\n1 0 1 20000 (case (app s0 s0) s1 _ (app s0 s1))")
	var got impl.RunResult
	room := allocated(func() { got = impl.RunForms(list, 1, "", impl.MaxSteps, 100) })
	// At each level a case waits; the arguments of the last call are one too many.
	if want := (impl.RunResult{Outcome: impl.Outcome{End: impl.EndDeep, Steps: 2 + 2*impl.MaxPending}, Made: 1, Peak: 1}); got != want || room > 1<<25 {
		t.Errorf("answers %s in %d bytes", shortRun(got), room)
	}
}

// Very many arguments of one call are taken one by one by what comes out.
func TestArgumentsThatAreLeftVeryOften(t *testing.T) {
	t.Parallel()
	const count = 300000
	call := impl.Code{Kind: impl.KApp, Refs: slices.Repeat([]int64{0}, count)}
	list := []impl.Form{{Slots: 1, Body: impl.Code{Kind: impl.KLet, Kids: []impl.Code{{Kind: impl.KMake, A: 1}, call}}}, {Params: 1, Slots: 1, Body: impl.Code{Kind: impl.KSlot}}}
	if got, want := impl.RunForms(list, 1, "", impl.MaxSteps, 100), (impl.RunResult{Outcome: impl.Outcome{End: impl.EndStuck, Steps: 2 + count}, Made: 1, Peak: 1}); got != want {
		t.Errorf("answers %s", shortRun(got))
	}
	// Each in its order: the first one is told.
	mixed := readForms("0 0 0 6 (let s0 (make 1) 'a' 'b' 'c' 'd' (con []) (app s0 s1 s2 s3 s4 s5))\n1 0 1 2 (let s1 (make 2 s0) s1)\n2 1 2 4 (let s3 (make 3 s0 s1 s2) s3)\n3 3 2 7 (let s5 (con : s3 s4) (let s6 (con : s2 s5) (let s5 (con : s1 s6) (con : s0 s5))))")
	if got, want := (slowRun{mixed, 1, "", 100, 100}).check(t), (impl.RunResult{Outcome: impl.Outcome{Out: "abcd", Steps: 10}, Made: 12, Peak: 12}); got != want {
		t.Errorf("answers %s", shortRun(got))
	}
}

// Names that are very long, in very many places.
func TestRunsOfLongNames(t *testing.T) {
	t.Parallel()
	name := "C" + strings.Repeat("c", 100000)
	list := impl.FormsOf(coreCase("", []impl.Core{severalOf(5000, coreCon(name)), coreString("told")}))
	if got := impl.RunForms(list, 1, "", impl.MaxSteps, impl.MaxHeap); got.Outcome.Out != "told" || got.Made != 5010 {
		t.Errorf("answers %s", shortRun(got))
	}
	// Texts that no heap has room for.
	long := []impl.Form{{Body: impl.Code{Kind: impl.KText, Name: strings.Repeat("t", 5000000)}}}
	if got, want := impl.RunForms(long, 1, "", 9, impl.MaxHeap), (impl.RunResult{Outcome: impl.Outcome{End: impl.EndHeap, Steps: 1}, Collections: 1}); got != want {
		t.Errorf("a text that is too long answers %s", shortRun(got))
	}
}

// The greatest terms of each form are run.
func TestRunsOfTheGreatestTerms(t *testing.T) {
	t.Parallel()
	for name, form := range coreForms() {
		c := coreLam("x", form(impl.MaxCore-2))
		r := slowRun{impl.FormsOf(c), 2, "input", 50000, impl.MaxHeap}
		checkStandsFor(t, c, r, 50000)
		if got := r.answer(); got.Outcome.End == impl.EndBad {
			t.Errorf("%s is bad", name)
		}
	}
	for name, frame := range coreLevels() {
		c := coreLam("x y", raised(coreVar("y"), impl.MaxCoreDeep-2, frame))
		given := coreApp(c, coreString("a"), coreString("b"))
		if impl.CoreFault(given) != 0 {
			given = c
		}
		r := slowRun{impl.FormsOf(given), 1, "", 20000, 50000}
		checkStandsFor(t, given, r, 20000)
		if got := r.check(t); got.Outcome.End == impl.EndBad {
			t.Errorf("%s is bad", name)
		}
	}
}
