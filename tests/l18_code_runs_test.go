package tests

import (
	"strings"
	"sync"
	"testing"

	"loop.example/g00017/impl"
)

// checkFormRun asks for promise 16 of a term, with the document's machine without a heap, and answers how the run ends. With steps enough it tells all that the term means.
func checkFormRun(t *testing.T, c impl.Core, mode int64, input string, steps int64) int64 {
	t.Helper()
	want := impl.Meaning(c, mode, input, steps)
	got := runFormsSlowly(impl.FormsOf(c), mode, input, 4*steps)
	if want.End == impl.EndBad || !impl.Stands(want, got) {
		t.Errorf("%s\ntells %v, its forms %v", shortCore(c), want, got)
	}
	switch {
	case want.End == impl.EndSteps || want.End == impl.EndDeep || got.End == impl.EndDeep || got.End == impl.EndSteps:
		if !strings.HasPrefix(got.Out, want.Out) && !strings.HasPrefix(want.Out, got.Out) {
			t.Errorf("%s\ntells %v, its forms %v", shortCore(c), want, got)
		}
	case got.End != want.End || got.Out != want.Out || got.Error != want.Error:
		t.Errorf("%s\ntells %v, its forms %v", shortCore(c), want, got)
	}
	return got.End
}

func TestFormsOfTypedTermsRun(t *testing.T) {
	t.Parallel()
	var lock sync.Mutex
	ends := map[int64]int{}
	var all sync.WaitGroup
	for worker := range uint64(6) {
		all.Go(func() {
			m := newMeantMaker(1870 + worker)
			for i := range 500 {
				c, mode := m.drawn(3 + i%9)
				end := checkFormRun(t, c, mode, "input", 3000)
				lock.Lock()
				ends[end]++
				lock.Unlock()
			}
		})
	}
	all.Wait()
	for _, end := range []int64{impl.EndDone, impl.EndError, impl.EndLoop, impl.EndSteps, impl.EndOut, impl.EndStuck} {
		if ends[end] < 3 {
			t.Errorf("few end %d: %v", end, ends)
		}
	}
}

// Terms without a type get stuck at the same place.
func TestFormsOfUntypedTermsRun(t *testing.T) {
	t.Parallel()
	ends := map[int64]int{}
	closedTerms(1880, 350, func(c impl.Core) {
		ends[checkFormRun(t, c, 1, "", 2000)]++
		ends[checkFormRun(t, c, 2, "input", 2000)]++
		told := coreCon(":", coreChar("a"), coreCon(":", coreCase("", []impl.Core{c}, coreAlt("C x", coreChar("b")), coreAlt("A", coreChar("c"))), c))
		ends[checkFormRun(t, told, 1, "", 2000)]++
	})
	for _, end := range []int64{impl.EndDone, impl.EndError, impl.EndLoop, impl.EndStuck} {
		if ends[end] < 50 {
			t.Errorf("few end %d: %v", end, ends)
		}
	}
}

func TestFormsOfProgramsRun(t *testing.T) {
	t.Parallel()
	for _, p := range toldPrograms() {
		c, mode := programCore(t, p.main)
		steps := int64(impl.MaxSteps)
		if p.want.End == impl.EndSteps {
			steps = 20000
		}
		checkFormRun(t, c, mode, p.input, steps)
		if got := runFormsSlowly(impl.FormsOf(c), mode, p.input, 4*steps); p.want.End != impl.EndSteps && p.want.End != impl.EndDeep && (got.End != p.want.End || got.Out != p.want.Out || got.Error != p.want.Error) {
			t.Errorf("%s\ntells %v, not %v", p.main, got, p.want)
		}
	}
}

// Behind passes a program's forms still tell what it means.
func TestFormsBehindPassesRun(t *testing.T) {
	t.Parallel()
	every := []int64{impl.PassBeta, impl.PassInline, impl.PassDead, impl.PassStrict}
	for _, p := range toldPrograms() {
		c, mode := programCore(t, p.main)
		passed := impl.RunPasses(c, every)
		if passed.Code != 0 {
			t.Errorf("%s: code %d", p.main, passed.Code)
			continue
		}
		checkFormRun(t, passed.Core, mode, p.input, 100000)
	}
}

// What is named is worked out once, what is not asked for not at all, and what asks for itself is a loop.
func TestFormsShareAndSuspend(t *testing.T) {
	for _, row := range []struct {
		text string
		want impl.Outcome
	}{
		{`(let x = (primError "x") in "told")`, impl.Outcome{Out: "told"}},
		{`((\x -> "told") (primError "x"))`, impl.Outcome{Out: "told"}},
		{`(case (C (primError "x") 2) of { C a b -> (primShow b) })`, impl.Outcome{Out: "2"}},
		{`(let x = (primSeq x 1) in (primShow x))`, impl.Outcome{End: impl.EndLoop}},
		{`(let x = y; y = x in x)`, impl.Outcome{End: impl.EndLoop}},
		{`(let xs = (: 'a' ys); ys = (: 'b' []) in xs)`, impl.Outcome{Out: "ab"}},
		{`(primSeq (primDiv 1 0) "told")`, impl.Outcome{End: impl.EndError, Error: "division by zero"}},
		{`(primSeq (C (primDiv 1 0)) "told")`, impl.Outcome{Out: "told"}},
		{`(: 'a' (primError "x"))`, impl.Outcome{End: impl.EndError, Out: "a", Error: "x"}},
		{`(let f = (\n -> (case (primEq n 0) of { True -> 1; False -> (primMul n (f (primSub n 1))) })) in (primShow (f 20)))`, impl.Outcome{Out: "2432902008176640000"}},
		{`(let d = (\n -> (case (primEq n 0) of { True -> 1; _ -> (let h = (d (primSub n 1)) in (primAdd h h)) })) in (primShow (d 200)))`, impl.Outcome{Out: "1606938044258990275541962092341162602522202993782792835301376"}},
		{`(((\a b c -> (: c (: b (: a [])))) 'x') 'y' 'z')`, impl.Outcome{Out: "zyx"}},
		{`((\a -> (\b -> (: a (: b [])))) 'x' 'y')`, impl.Outcome{Out: "xy"}},
	} {
		c := readCore(row.text)
		checkFormRun(t, c, 1, "", 20000)
		got := runFormsSlowly(impl.FormsOf(c), 1, "", 20000)
		got.Steps = 0
		if got != row.want {
			t.Errorf("%s tells %v, not %v", row.text, got, row.want)
		}
	}
}
