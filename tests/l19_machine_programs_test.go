package tests

import (
	"math/rand/v2"
	"strings"
	"testing"

	"loop.example/g00017/impl"
)

// checkProgramRun asks for promise 16 of a program, as it is and behind passes.
func checkProgramRun(t *testing.T, p toldProgram, c impl.Core, mode int64) slowRun {
	t.Helper()
	r := slowRun{impl.FormsOf(c), mode, p.input, impl.MaxSteps, impl.MaxHeap}
	got := r.answer()
	o := got.Outcome
	switch p.want.End {
	case impl.EndSteps, impl.EndDeep:
		if o.Out != p.want.Out || o.End != impl.EndSteps && o.End != impl.EndDeep && o.End != impl.EndHeap {
			t.Errorf("%s\nanswers %s", p.main, shortRun(got))
		}
	default:
		if o.End != p.want.End || o.Out != p.want.Out || o.Error != p.want.Error {
			t.Errorf("%s\nanswers %s\nnot %.300v", p.main, shortRun(got), p.want)
		}
	}
	if meaning := impl.Meaning(c, mode, p.input, impl.MaxSteps); !impl.Stands(meaning, o) {
		t.Errorf("%s\nanswers %s\nand means %.300v", p.main, shortRun(got), meaning)
	}
	return r
}

func TestRunsOfWholePrograms(t *testing.T) {
	t.Parallel()
	collected := 0
	for _, p := range toldPrograms() {
		c, mode := programCore(t, p.main)
		r := checkProgramRun(t, p, c, mode)
		got := r.answer()
		if got.Outcome.Steps > 60000 {
			continue
		}
		r.checkSteps(t)
		r.heap = 3000 + 2*int64(len(p.input))
		if r.answer().Outcome.End == impl.EndHeap {
			r.heap = impl.MaxHeap
		}
		least := r.checkHeaps(t)
		for _, heap := range []int64{least - 1, least, least + 1, 2 * least} {
			if r.heap = max(100, heap); got.Outcome.Steps < 20000 && least < 3000 {
				collected += int(min(r.check(t).Collections, 1))
			}
		}
	}
	if collected < 20 {
		t.Errorf("%d of them make collections", collected)
	}
}

func TestRunsOfWholeProgramsBehindPasses(t *testing.T) {
	t.Parallel()
	for _, passes := range [][]int64{
		{impl.PassBeta}, {impl.PassStrict},
		{impl.PassBeta, impl.PassInline, impl.PassDead, impl.PassKnown, impl.PassFloat, impl.PassStrict},
	} {
		for _, p := range toldPrograms() {
			c, mode := programCore(t, p.main)
			passed := impl.RunPasses(c, passes)
			if passed.Code != 0 {
				t.Errorf("%s: code %d", p.main, passed.Code)
				continue
			}
			steps := int64(300000)
			r := slowRun{impl.FormsOf(passed.Core), mode, p.input, 4 * steps, impl.MaxHeap}
			want, got := impl.Meaning(c, mode, p.input, steps), r.answer().Outcome
			if !impl.Stands(want, got) || want.End == impl.EndDone && got.Out != want.Out {
				t.Errorf("%s\nbehind %v: tells %.300v, not %.300v", p.main, passes, got, want)
			}
		}
	}
}

// Drawn programs run as they mean.
func TestRunsOfDrawnPrograms(t *testing.T) {
	t.Parallel()
	m := &runMaker{Rand: rand.New(rand.NewPCG(19, 1))}
	ends := map[int64]int{}
	for range 12 {
		list := []impl.Node{parsed(t, m.module(5, 12))}
		p := runProgramOf(list, "M.f6")
		for _, typed := range impl.InferProgram(list).Types[5:] {
			letter := letterOf(typed.Scheme)
			if letter == "" {
				continue
			}
			c := p.core
			c.Kids = append([]impl.Core(nil), c.Kids...)
			c.Kids[len(c.Kids)-1] = shownCore(letter, coreVar(typed.Name))
			r := slowRun{impl.FormsOf(c), 1, "", 40000, impl.MaxHeap}
			got := r.answer()
			checkStandsFor(t, c, r, 20000)
			ends[got.Outcome.End]++
			if got.Outcome.Steps < 5000 {
				r.heap = 400 + m.Int64N(200)
				r.check(t)
			}
		}
	}
	if ends[impl.EndDone] < 20 || ends[impl.EndError] < 5 || ends[impl.EndStuck] > 0 {
		t.Errorf("there are %v", ends)
	}
}

// The least heaps of some programs, which hang on what they hold and not on how long they run, once no clause is suspended.
func TestHeapsOfPrograms(t *testing.T) {
	t.Parallel()
	least := func(main, input string) int64 {
		c, mode := programCore(t, main)
		passed := impl.RunPasses(c, []int64{impl.PassInline})
		r := slowRun{impl.FormsOf(passed.Core), mode, input, impl.MaxSteps, 50000}
		if got := r.answer(); got.Outcome.End != impl.EndDone {
			t.Errorf("%s answers %s", main, shortRun(got))
		}
		return r.checkHeaps(t)
	}
	sum := func(count string) int64 {
		return least("main = show (sum 0 [1 .. "+count+"])\nsum n [] = n\nsum n (x : xs) = primSeq n (sum (primAdd n x) xs)", "")
	}
	if a, b := sum("300"), sum("30000"); a != b {
		t.Errorf("the sum of 300 asks for %d cells, that of 30000 for %d", a, b)
	}
	// What is read, changed and told at once is not held.
	upper := "main = map up\nup c | primLess (primOrd c) 97 = c\n     | True = primChr (primSub (primOrd c) 32)"
	text := strings.Repeat("some words ", 300)
	a, b := least(upper, text[:1000]), least(upper, text[:3000])
	if b-a < 2*2000 || b-a > 2*2000+3 {
		t.Errorf("1000 chars ask for %d cells, 3000 for %d", a, b)
	}
	// What is reversed is.
	reversed := "main :: [Char] -> [Char]\nmain s = reverse s"
	if a, b := least(reversed, text[:500]), least(reversed, text[:1500]); b-a < 2*1000 {
		t.Errorf("500 chars reversed ask for %d cells, 1500 for %d", a, b)
	}
}
