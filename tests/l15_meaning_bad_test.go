package tests

import (
	"math"
	"slices"
	"strings"
	"testing"

	"loop.example/g00017/impl"
)

// checkBad asks for EndBad and nothing else.
func checkBad(t *testing.T, what string, c impl.Core, mode int64, input string, steps int64) {
	t.Helper()
	if got := impl.Meaning(c, mode, input, steps); got != (impl.Outcome{End: impl.EndBad}) {
		t.Errorf("%s tells %v", what, got)
	}
}

func TestFaultyTermsAreBad(t *testing.T) {
	t.Parallel()
	good, faults := 0, map[int64]int{}
	for _, c := range severalCores() {
		fault := coreFaultSlowly(c)
		faults[fault]++
		if fault != 0 || len(freeNamesSlowly(c)) > 0 {
			checkBad(t, coreText(c), c, 1, "", 100)
			checkBad(t, coreText(c), c, 2, "in", 100)
			continue
		}
		good++
		checkRuns17(t, c, 1, "", 100)
		checkRuns17(t, c, 2, "in", 100)
	}
	if good < 10 || faults[2] < 100 {
		t.Errorf("there are %d good ones, and faults %v", good, faults)
	}
}

// Too large and too deep, by one; what is as large as may be is told.
func TestLargestTermsMean(t *testing.T) {
	t.Parallel()
	wide := func(count int) impl.Core {
		return coreCase("", []impl.Core{coreCon("C", slices.Repeat([]impl.Core{coreInt(1)}, count)...), coreString("wide")})
	}
	deep := func(levels int) impl.Core {
		return raised(coreString("deep"), levels-1, func(c impl.Core) impl.Core { return corePrim("primSeq", coreInt(1), c) })
	}
	if got, want := impl.Meaning(wide(impl.MaxCore-3), 1, "", 100), (impl.Outcome{Out: "wide", Steps: 3}); got != want {
		t.Errorf("the largest one tells %v", got)
	}
	if got, want := impl.Meaning(deep(impl.MaxCoreDeep), 1, "", impl.MaxSteps), (impl.Outcome{Out: "deep", Steps: 2*impl.MaxCoreDeep - 1}); got != want {
		t.Errorf("the deepest one tells %v", got)
	}
	checkBad(t, "too large a one", wide(impl.MaxCore-2), 1, "", 100)
	checkBad(t, "too deep a one", deep(impl.MaxCoreDeep+1), 1, "", impl.MaxSteps)
	checkBad(t, "too large a one", coreCon("C", make([]impl.Core, 600000)...), 1, "", 100)
	checkBad(t, "a far too deep one", raised(coreInt(1), 50000, func(c impl.Core) impl.Core { return coreCon("C", c) }), 1, "", 100)
	ring := coreCon(":", coreChar("a"), impl.Core{})
	ring.Kids[1] = ring
	checkBad(t, "one that comes back to itself", ring, 1, "", 100)
}

func TestFreeNamesAreBad(t *testing.T) {
	t.Parallel()
	for _, text := range []string{
		`x`, `(C x)`, `(: 'a' x)`, `(f "a")`, `((\x -> x) y)`, `(\x -> y)`, `(let x = "a" in y)`, `(let x = y in "a")`,
		`(case x of { _ -> "a" })`, `(case x of x { _ -> "a" })`, `(case A of { A -> y })`, `(case A of { A -> "a"; B y -> y; C -> y })`, `(case A of { B x -> x; _ -> x })`,
		`(primShow x)`, `(primSeq "a" x)`, `(let x = "a" in (primSeq x (primSeq 1 (\y -> z))))`, `((\x -> x) x)`,
		`(case (A "a") of { A b -> b; B -> b })`, `primAppend`, `(negate 1)`,
	} {
		checkBad(t, text, readCore(text), 1, "", 100)
		checkBad(t, text, readCore(text), 2, "in", 100)
	}
}

func TestModesInputsAndStepsThatAreBad(t *testing.T) {
	t.Parallel()
	most := strings.Repeat("i", impl.MaxSource)
	for text, steps := range map[string]int64{`"a"`: 1, `(\x -> x)`: 2, `(let f = (\x -> (f x)) in f)`: impl.MaxSteps} {
		c := readCore(text)
		for _, mode := range []int64{0, 3, -1, -2, 4, 1 << 32, 1<<32 + 1, math.MaxInt64, math.MinInt64} {
			checkBad(t, text, c, mode, "", 100)
		}
		for _, mode := range []int64{1, 2} {
			checkBad(t, text, c, mode, most+"i", 100)
			checkBad(t, text, c, mode, most+most, 100)
			for _, steps := range []int64{0, -1, impl.MaxSteps + 1, 1<<32 + 1, math.MaxInt64, math.MinInt64} {
				checkBad(t, text, c, mode, "", steps)
			}
		}
		for _, few := range []int64{1, steps} {
			if got := impl.Meaning(c, 2, most, few); got.End == impl.EndBad || got.Steps != min(few, steps) {
				t.Errorf("%s with %d steps and the longest input ends %d in %d steps", text, few, got.End, got.Steps)
			}
		}
		if got := impl.Meaning(c, 1, most, impl.MaxSteps); got.End == impl.EndBad {
			t.Errorf("%s with most steps and the longest input is bad", text)
		}
	}
	checkBad(t, "all at once", readCore("x"), 3, most+"i", 0)
	// One step: of a term that takes one, and of others.
	if got, want := impl.Meaning(coreString("a"), 1, "", 1), (impl.Outcome{Out: "a", Steps: 1}); got != want {
		t.Errorf("one step tells %v", got)
	}
	if got, want := impl.Meaning(readCore(`(: 'a' "b")`), 1, "", 1), (impl.Outcome{End: impl.EndSteps, Out: "a", Steps: 1}); got != want {
		t.Errorf("one step tells %v", got)
	}
}
