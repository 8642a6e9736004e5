package tests

import (
	"strings"
	"sync"
	"testing"

	"loop.example/g00017/impl"
)

// A meantCall has the arguments of Meaning.
type meantCall struct {
	c     impl.Core
	mode  int64
	input string
	steps int64
}

func (c meantCall) answer() impl.Outcome { return impl.Meaning(c.c, c.mode, c.input, c.steps) }

// meantCalls has runs of all ends, bad ones among them.
func meantCalls() []meantCall {
	var calls []meantCall
	m := newMeantMaker(100)
	for i := range 400 {
		c, mode := m.drawn(3 + i%7)
		calls = append(calls, meantCall{c, mode, "some input", 2000})
	}
	for i, c := range severalCores()[:200] {
		calls = append(calls, meantCall{c, int64(i % 4), "input", int64(i%50) * 3})
	}
	for i, text := range []string{`"text of the output"`, `(primError "text of the error")`, `(\x -> x)`, `(\x -> (primError x))`, `(primShow 12345678901234567890)`, `(let x = (: 'a' x) in x)`, `(let f = (\x -> (f x)) in (f 1))`, `(let f = (\x -> (primAdd 1 (f x))) in (: 'a' (primShow (f 1))))`} {
		calls = append(calls, meantCall{readCore(text), 1, "input", 500000}, meantCall{readCore(text), 2, strings.Repeat("input", i+1), 500000})
	}
	return calls
}

func TestRunsChangeNothing(t *testing.T) {
	t.Parallel()
	ends := map[int64]int{}
	for _, c := range meantCalls() {
		own := meantCall{roomyCore(c.c), c.mode, strings.Clone(c.input), c.steps}
		before := coreText(own.c)
		got := own.answer()
		ends[got.End]++
		if coreText(own.c) != before || before != coreText(c.c) || !coreRoomKept(own.c) || own.input != c.input {
			t.Errorf("%s is changed", before)
		}
		if got != c.answer() || got != own.answer() {
			t.Errorf("%s hangs on what stands behind a list, or on another call", before)
		}
	}
	for end := range int64(impl.EndBad + 1) {
		if ends[end] == 0 {
			t.Errorf("none ends %d", end)
		}
	}
}

func TestToldTextsAreNewMemory(t *testing.T) {
	t.Parallel()
	for _, c := range meantCalls() {
		own := meantCall{roomyCore(c.c), c.mode, strings.Clone(c.input), c.steps}
		got := own.answer()
		_, given := coreMemory(own.c)
		given = append(given, textMemory(own.input)...)
		told := append(textMemory(got.Out), textMemory(got.Error)...)
		if touches(told, given) {
			t.Errorf("%s: what is told lies in an argument", coreText(own.c))
		}
		want := impl.Outcome{End: got.End, Out: strings.Clone(got.Out), Error: strings.Clone(got.Error), Steps: got.Steps}
		spoilCore(own.c)
		if got != want {
			t.Errorf("%s: what is told turns with the argument", coreText(c.c))
		}
	}
}

// Calls at the same time and in any order answer alike.
func TestRunsAtOnce(t *testing.T) {
	t.Parallel()
	calls := meantCalls()
	var want []impl.Outcome
	for _, c := range calls {
		want = append(want, c.answer())
	}
	var all sync.WaitGroup
	for worker := range 8 {
		all.Go(func() {
			for i := range calls {
				at := (i*5 + worker) % len(calls)
				if got := calls[at].answer(); got != want[at] {
					t.Errorf("%s answers another way", coreText(calls[at].c))
				}
			}
		})
	}
	all.Wait()
}
