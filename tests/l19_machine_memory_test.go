package tests

import (
	"strings"
	"sync"
	"testing"

	"loop.example/g00017/impl"
)

// machineCalls has runs of all ends, bad ones among them, with collections and without.
func machineCalls() []slowRun {
	var calls []slowRun
	m := newMeantMaker(1940)
	for i := range 150 {
		c, mode := m.drawn(3 + i%7)
		calls = append(calls, slowRun{impl.FormsOf(laden(c, mode, 40+i%10)), mode, "some input", 2000, 100 + int64(i%7)*5})
	}
	for i, list := range someForms() {
		calls = append(calls, slowRun{list, int64(i % 4), "input", int64(i%50) * 3, 90 + int64(i%30)})
	}
	for i, text := range []string{`"text of the output"`, `(primError "text of the error")`, `(\x -> x)`, `(\x -> (primError x))`, `(primShow 12345678901234567890)`, `(let x = (: 'a' x) in x)`, `(let f = (\x -> (f x)) in (f 1))`, `(let f = (\x -> (primAdd 1 (f x))) in (: 'a' (primShow (f 1))))`, `(let f = (\n -> (: (primChr (primMod n 256)) (f (primMul n 12345678901234567890)))) in (f 7))`} {
		list := impl.FormsOf(readCore(text))
		calls = append(calls, slowRun{list, 1, "input", 200000, 150}, slowRun{list, 2, strings.Repeat("input", i+1), 200000, impl.MaxHeap}, slowRun{list, 1, "", 200000, impl.MaxHeap})
	}
	return calls
}

// roomyRun has the same arguments in memory of their own.
func (r slowRun) roomy() slowRun {
	return slowRun{roomyForms(r.list), r.mode, strings.Clone(r.input), r.steps, r.heap}
}

func TestMachineRunsChangeNothing(t *testing.T) {
	t.Parallel()
	ends, collected := map[int64]int{}, 0
	for _, r := range machineCalls() {
		own := r.roomy()
		before := formsText(own.list)
		got := own.answer()
		ends[got.Outcome.End]++
		collected += int(min(got.Collections, 1))
		if formsText(own.list) != before || before != formsText(r.list) || !formsRoomKept(own.list) || own.input != r.input {
			t.Errorf("%s are changed", before)
		}
		if got != r.answer() || got != own.answer() {
			t.Errorf("%s hang on what stands behind a list, or on another call", before)
		}
	}
	for end := range int64(impl.EndHeap + 1) {
		if ends[end] == 0 {
			t.Errorf("none ends %d", end)
		}
	}
	if collected < 50 {
		t.Errorf("%d make collections", collected)
	}
}

func TestTextsOfRunsAreNewMemory(t *testing.T) {
	t.Parallel()
	for _, r := range machineCalls() {
		own := r.roomy()
		got := own.answer()
		_, given := formsMemory(own.list)
		given = append(given, textMemory(own.input)...)
		told := append(textMemory(got.Outcome.Out), textMemory(got.Outcome.Error)...)
		if touches(told, given) {
			t.Errorf("%s: what is told lies in an argument", shortForms(own.list))
		}
		want := got
		want.Outcome.Out, want.Outcome.Error = strings.Clone(got.Outcome.Out), strings.Clone(got.Outcome.Error)
		spoilForms(own.list)
		if got != want {
			t.Errorf("%s: what is told turns with the argument", shortForms(r.list))
		}
	}
}

// Calls at the same time and in any order answer alike.
func TestMachineRunsAtOnce(t *testing.T) {
	t.Parallel()
	calls := machineCalls()
	var want []impl.RunResult
	for _, r := range calls {
		want = append(want, r.answer())
	}
	var all sync.WaitGroup
	for worker := range 8 {
		all.Go(func() {
			for i := range calls {
				at := (i*5 + worker) % len(calls)
				if got := calls[at].answer(); got != want[at] {
					t.Errorf("%s answers another way", shortForms(calls[at].list))
				}
			}
		})
	}
	all.Wait()
}

// Lists and texts that forms share are none of the machine's: what it makes of them is its own.
func TestRunsOfSharedForms(t *testing.T) {
	t.Parallel()
	great := impl.BigRead("123456789012345678901234567890").Big
	kids := []impl.Code{{Kind: impl.KInt, Big: great}, {Kind: impl.KInt, Big: great}, {Kind: impl.KPrim, Name: "primMul", Refs: []int64{0, 1}}}
	body := impl.Code{Kind: impl.KCase, A: 0, Kids: []impl.Code{{Kind: impl.KLet, Kids: kids}, {Kind: impl.KPrim, Name: "primShow", Refs: []int64{0}}}}
	form := impl.Form{Slots: 2, Body: body}
	first := impl.Form{Slots: 4, Body: readCode("(let s0 (make 1) (make 2) (case s0 - { : s2 2 (case s1 - { : s2 2 s3 }) }))")}
	list := []impl.Form{first, form, form}
	before := formsText(list)
	r := slowRun{list, 1, "", 100, 1000}
	got := r.check(t)
	if got.Outcome.Out != "5241578753238836750495351562536198787501905199875019052100" || got.Updates != 2 || formsText(list) != before {
		t.Errorf("answers %s", shortRun(got))
	}
}
