package tests

import (
	"math"
	"slices"
	"strings"
	"testing"

	"loop.example/g00017/impl"
)

// checkBadRun asks for EndBad and nothing else.
func checkBadRun(t *testing.T, what string, r slowRun) {
	t.Helper()
	if got := r.answer(); got != (impl.RunResult{Outcome: impl.Outcome{End: impl.EndBad}}) {
		t.Errorf("%s answers %s", what, shortRun(got))
	}
}

func TestFaultyFormsAreBad(t *testing.T) {
	t.Parallel()
	text := impl.Code{Kind: impl.KText, Name: "a"}
	wrong := map[string][]impl.Form{
		"no forms":                     nil,
		"an empty list":                {},
		"a form that has nothing":      {{}},
		"a first one with Free":        {{Free: 1, Slots: 1, Body: text}},
		"a first one with Params":      {{Params: 1, Slots: 1, Body: text}},
		"a number below 0":             {{Body: text}, {Free: -1, Body: text}},
		"a number too large":           {{Slots: impl.MaxCore + 1, Body: text}},
		"too few slots":                {{Body: text}, {Free: 2, Params: 2, Slots: 3, Body: text}},
		"too many forms":               slices.Repeat([]impl.Form{{Body: text}}, impl.MaxCore+1),
		"a code of no kind":            {{Body: impl.Code{Kind: 11}}},
		"a slot that is none":          {{Slots: 1, Body: impl.Code{Kind: impl.KSlot, A: 1}}},
		"a form that there is not":     {{Slots: 1, Body: readCode("(let s0 (make 1) s0)")}},
		"refs that are not asked for":  {{Slots: 1, Body: readCode("(let s0 (make 1 s0) s0)")}, {Body: text}},
		"a prim that is none":          {{Slots: 1, Body: readCode("(let s0 7 (prim primAppend s0))")}},
		"a faulty number":              {{Body: impl.Code{Kind: impl.KInt, Big: impl.Big{Minus: true}}}},
		"something that it has not":    {{Body: impl.Code{Kind: impl.KText, Name: "a", B: 1}}},
		"a wrong one that is not used": {{Body: text}, {Body: impl.Code{Kind: impl.KSlot}}},
		"too many codes":               {{Slots: 1, Body: impl.Code{Kind: impl.KLet, Kids: slices.Repeat([]impl.Code{{Kind: impl.KInt}}, 4*impl.MaxCore)}}},
	}
	faults := map[int64]int{}
	for what, list := range wrong {
		faults[impl.FormFault(list)]++
		for _, mode := range []int64{1, 2} {
			checkBadRun(t, what, slowRun{list, mode, "in", 100, 1000})
		}
	}
	if faults[0] > 0 || faults[1] < 5 || faults[2] < 5 {
		t.Errorf("there are faults %v", faults)
	}
	round := []impl.Code{{Kind: impl.KCase, A: -1, Alts: []impl.CodeAlt{{Con: "A", Body: text}}}}
	round[0].Kids = round
	checkBadRun(t, "a code that comes back to itself", slowRun{[]impl.Form{{Body: round[0]}}, 1, "", 100, 1000})
	// As many forms, slots and codes as may be are run.
	most := slices.Repeat([]impl.Form{{Slots: impl.MaxCore, Body: text}}, impl.MaxCore)
	if got, want := impl.RunForms(most, 1, "", 1, 100), (impl.RunResult{Outcome: impl.Outcome{Out: "a", Steps: 1}, Made: 3, Peak: 3}); got != want {
		t.Errorf("the most forms answer %s", shortRun(got))
	}
	codes := impl.Code{Kind: impl.KText, Name: "a"}
	for range 2*impl.MaxCore - 1 {
		codes = impl.Code{Kind: impl.KLet, Kids: []impl.Code{{Kind: impl.KInt}, codes}}
	}
	if got, want := impl.RunForms([]impl.Form{{Slots: 1, Body: codes}}, 1, "", impl.MaxSteps, 100), (impl.RunResult{Outcome: impl.Outcome{Out: "a", Steps: 2 * impl.MaxCore}, Made: 2*impl.MaxCore + 2, Collections: 404, Peak: 100}); got != want {
		t.Errorf("the most codes answer %s", shortRun(got))
	}
}

func TestDrawnFaultyFormsAreBad(t *testing.T) {
	t.Parallel()
	faults := map[int64]int{}
	for _, list := range someForms() {
		fault := formFaultSlowly(list)
		faults[fault]++
		for _, mode := range []int64{1, 2} {
			run := slowRun{list, mode, "in", 500, 100}
			if fault != 0 {
				checkBadRun(t, formsText(list), run)
			} else if got := run.check(t); got.Outcome.End == impl.EndBad {
				t.Errorf("%s are bad", formsText(list))
			}
		}
	}
	if faults[0] < 100 || faults[1] < 10 || faults[2] < 50 {
		t.Errorf("there are faults %v", faults)
	}
}

func TestModesInputsStepsAndHeapsThatAreBad(t *testing.T) {
	t.Parallel()
	most := strings.Repeat("i", impl.MaxSource)
	for text, steps := range map[string]int64{`"a"`: 1, `(\x -> x)`: 3, `(let f = (\x -> (f x)) in f)`: impl.MaxSteps} {
		list := impl.FormsOf(readCore(text))
		for _, mode := range []int64{0, 3, -1, -2, 4, 1 << 32, 1<<32 + 1, math.MaxInt64, math.MinInt64} {
			checkBadRun(t, text, slowRun{list, mode, "", 100, 100})
		}
		for _, mode := range []int64{1, 2} {
			checkBadRun(t, text, slowRun{list, mode, most + "i", 100, impl.MaxHeap})
			checkBadRun(t, text, slowRun{list, mode, most + most, 100, impl.MaxHeap})
			for _, steps := range []int64{0, -1, impl.MaxSteps + 1, 1<<32 + 1, math.MaxInt64, math.MinInt64} {
				checkBadRun(t, text, slowRun{list, mode, "", steps, 100})
			}
			for _, heap := range []int64{0, 1, 99, -1, -100, impl.MaxHeap + 1, 1<<32 + 100, math.MaxInt64, math.MinInt64} {
				checkBadRun(t, text, slowRun{list, mode, "", 100, heap})
			}
			for _, heap := range []int64{100, 101, impl.MaxHeap - 1, impl.MaxHeap} {
				for _, few := range []int64{1, 2, steps} {
					if got := impl.RunForms(list, mode, "", few, heap); got.Outcome.End == impl.EndBad || mode == 2 && got.Outcome.Steps != min(few, steps) {
						t.Errorf("%s, mode %d, %d steps, a heap of %d answers %s", text, mode, few, heap, shortRun(got))
					}
				}
			}
		}
		if got := impl.RunForms(list, 2, most, steps, impl.MaxHeap); got.Outcome.End == impl.EndBad || got.Outcome.Steps != steps || got.Peak < 2*impl.MaxSource+1 {
			t.Errorf("%s with the longest input answers %s", text, shortRun(got))
		}
		if got := impl.RunForms(list, 1, most, steps, 100); got.Outcome.End == impl.EndBad || got.Made > 10 {
			t.Errorf("%s with an input that is not looked at answers %s", text, shortRun(got))
		}
	}
	checkBadRun(t, "all at once", slowRun{nil, 3, most + "i", 0, 0})
}
