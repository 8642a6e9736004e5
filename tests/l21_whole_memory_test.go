package tests

import (
	"fmt"
	"runtime"
	"slices"
	"strings"
	"sync"
	"testing"
	"time"

	"loop.example/g00017/impl"
)

// wholeCalls has calls of all stages, and of programs that run to all ends, behind passes and without.
func wholeCalls(t *testing.T) []wholeCall {
	t.Helper()
	calls := []wholeCall{
		{nil, nil, "", 0, 0}, {[]string{""}, []int64{7}, "", 1, 100}, {[]string{soundMain, soundMain}, nil, "", 1, 100},
		{[]string{"module Main where\nimport A\nmain = x", "module B where\n", "module A where\nx = y"}, nil, "in", 1000, 1000},
		{[]string{inMain("main = 'a' 1")}, nil, "in", 1000, 1000}, {[]string{inMain("data T = A x")}, nil, "in", 1000, 1000},
		{[]string{"module Other where\nmain = \"\"\n"}, nil, "in", 1000, 1000},
		{[]string{inMain("main = [" + strings.Repeat("'a',", 1200) + "'a']")}, nil, "in", 1000, 1000},
		{[]string{inMain("main s = primAppend s \"out\"")}, []int64{1, 2, 9}, "in", 1000, 1000},
		{[]string{inMain("main s = primAppend s \"out\"")}, slices.Repeat([]int64{4}, impl.MaxPasses+1), "in", 1000, 1000},
		{[]string{inMain("main s = primAppend s \"out\"\nf 1 = 2\nf 1 = primShow 'a'")}, nil, strings.Repeat("in", 40000), 1000, 1000},
		{[]string{inMain("main = let { x = 'a' : x } in x")}, nil, "", impl.MaxSteps, 1000},
		{[]string{inMain("main = 'a' : x where { x = primAppend \"\" x }")}, []int64{1, 3}, "", 1000, 1000},
		{[]string{inMain("main = primShow (f 1)\nf x = primAdd 1 (f x)")}, nil, "", impl.MaxSteps, impl.MaxHeap},
		{[]string{inMain("main = primAppend \"a\"")}, []int64{4, 6}, strings.Repeat("in", 60), 5000, 100},
		{[]string{inMain("main = \"no match of a row\" ++ f 3\nf 1 = \"\"\n(++) = primAppend\ng True = 1\ng _ = 2\ng False = 3")}, []int64{2}, "", 5000, 1000},
		{[]string{"module Main where\nimport M\nmain = \"told of a great module\"\n", strings.Replace(moreForms, "module M where {", "module M where {\n", 1) + "\n"}, []int64{5, 4, 1}, "", 5000, 1000},
	}
	for i, p := range toldPrograms() {
		if i%3 < 2 {
			calls = append(calls, wholeCall{toldTexts(p.main), passLists()[i%11], p.input, 3000, 3000})
		}
	}
	m := newWholeMaker(900)
	for i := range 4 {
		texts := m.program(t)
		calls = append(calls, wholeCall{texts, m.passes(), "some\ninput", 5000, 2000 << i})
		own := slices.Clone(texts)
		own[1+i%3] = m.spoilt(own[1+i%3])
		calls = append(calls, wholeCall{own, nil, "", 5000, 2000})
	}
	return calls
}

// all has what the three functions answer.
func (c wholeCall) all() string {
	return fmt.Sprintf("%s\n%v\n%s", wholeText(impl.Check(c.texts)), c.answer(), impl.Serve(c.request()))
}

// what says which call it is.
func (c wholeCall) what() string {
	return fmt.Sprintf("%.1500s\npasses %v, %d steps, a heap of %d", strings.Join(c.texts, "\n"), c.passes, c.steps, c.heap)
}

// roomy copies the arguments, with something in the room behind each list.
func (c wholeCall) roomy() wholeCall {
	own := c
	own.texts = roomy(c.texts, "behind", strings.Clone)
	own.passes = roomy(c.passes, 7, func(p int64) int64 { return p })
	own.input = strings.Clone(c.input)
	return own
}

func TestWholeCallsChangeNothing(t *testing.T) {
	t.Parallel()
	stages, ends := map[int64]int{}, map[int64]int{}
	for _, c := range wholeCalls(t) {
		own := c.roomy()
		request := strings.Clone(c.request())
		want := own.all()
		if !slices.Equal(own.texts, c.texts) || !slices.Equal(own.passes, c.passes) || own.input != c.input || roomBehind(own.texts) != "behind" || roomBehind(own.passes) != 7 || own.request() != request {
			t.Errorf("%s\nis changed", c.what())
		}
		if c.all() != want || own.all() != want {
			t.Errorf("%s\nhangs on what stands behind a list, or on another call", c.what())
		}
		stages[impl.Check(c.texts).Stage]++
		ends[c.answer().Outcome.End]++
	}
	for stage := range int64(6) {
		if stages[stage] == 0 {
			t.Errorf("none has the stage %d", stage)
		}
	}
	for end := range int64(impl.EndHeap + 1) {
		if ends[end] == 0 && end != impl.EndStuck {
			t.Errorf("none ends %d", end)
		}
	}
}

// checkedMemory has where lists and texts of an answer lie.
func checkedMemory(c impl.CheckResult) (lists, texts []memory) {
	lists, texts = coreMemory(c.Core)
	lists = slices.Concat(lists, memoryOf(c.Types), memoryOf(c.Warnings))
	texts = slices.Concat(texts, textMemory(c.Module), textMemory(c.Name))
	for _, x := range c.Types {
		moreLists, moreTexts := typesMemory([]impl.Type{x.Scheme.Type}, nil, x.Scheme.Preds)
		lists, texts = append(lists, moreLists...), slices.Concat(texts, moreTexts, textMemory(x.Name))
	}
	for _, w := range c.Warnings {
		texts = append(texts, textMemory(w.Name)...)
	}
	return lists, texts
}

// spoilChecked overwrites all that lists of an answer have room for.
func spoilChecked(c impl.CheckResult) {
	spoilCore(c.Core)
	for _, x := range c.Types {
		spoilType(x.Scheme.Type)
		clear(x.Scheme.Preds[:cap(x.Scheme.Preds)])
	}
	clear(c.Types[:cap(c.Types)])
	clear(c.Warnings[:cap(c.Warnings)])
}

// No list lies in another one, of the same answer or of another one; no text lies in an argument.
func TestWholeAnswersAreNewMemory(t *testing.T) {
	t.Parallel()
	for _, c := range wholeCalls(t) {
		own := c.roomy()
		got, again := impl.Check(own.texts), impl.Check(own.texts)
		want := wholeText(got)
		lists, texts := checkedMemory(got)
		others, _ := checkedMemory(again)
		if !apart(slices.Concat(lists, others)) {
			t.Errorf("%s\nhas two lists that share memory", c.what())
		}
		given := slices.Concat(append(memoriesOf(own.texts), textMemory(own.input))...)
		run := own.answer().Outcome
		texts = slices.Concat(texts, textMemory(run.Out), textMemory(run.Error))
		request := own.request()
		first, second := impl.Serve(request), impl.Serve(request)
		if touches(texts, given) || touches(textMemory(first), textMemory(request)) {
			t.Errorf("%s\nis answered with a text that lies in an argument", c.what())
		}
		if first != "bad\n" && touches(textMemory(first), textMemory(second)) || second != first {
			t.Errorf("%s\nis answered twice in one memory", c.what())
		}
		runtime.KeepAlive([]string{request, first, second}) // so that none lies where another one lay
		spoilChecked(got)
		if wholeText(again) != want || wholeText(impl.Check(own.texts)) != want || own.answer().Outcome != run {
			t.Errorf("%s\nis told another way behind a change of what was told", c.what())
		}
	}
}

// Texts may lie in one memory, one in another one, and be the same ones.
func TestTextsOfSharedMemory(t *testing.T) {
	t.Parallel()
	for _, c := range wholeCalls(t) {
		joined, at := strings.Join(c.texts, ""), 0
		own := c
		own.texts = nil
		for _, text := range c.texts {
			own.texts = append(own.texts, joined[at:at+len(text)])
			at += len(text)
		}
		if own.all() != c.all() {
			t.Errorf("%s\nhangs on where its texts lie", c.what())
		}
	}
	main := soundMain
	for count := range 20 {
		want := ""
		if count > 1 {
			want = "stage 2 2 Main -"
		}
		if got := impl.Check(slices.Repeat([]string{main}, count)); count > 0 && stageText(got) != want {
			t.Errorf("%d times the same text has %q", count, stageText(got))
		}
	}
	nested := strings.Repeat("module Main where\nmain = \"\"\n", 3)
	if got := impl.Check([]string{nested[:len(soundMain)], nested[1:]}); stageText(got) != "stage 1 1 - 1" {
		t.Errorf("a text in another one has %q", stageText(got))
	}
}

// Calls at the same time and in any order answer alike, however many may run at once.
func TestWholeCallsAtOnce(t *testing.T) {
	calls := wholeCalls(t)
	var want []string
	for _, c := range calls {
		want = append(want, c.all())
	}
	defer runtime.GOMAXPROCS(runtime.GOMAXPROCS(0))
	for _, count := range []int{1, 2, 3, 16} {
		runtime.GOMAXPROCS(count)
		var all sync.WaitGroup
		for worker := range 4 {
			all.Go(func() {
				for i := range calls {
					at := (i*7 + worker*3) % len(calls)
					if got := calls[at].all(); got != want[at] {
						t.Errorf("%s\nanswers another way", calls[at].what())
					}
				}
			})
		}
		all.Wait()
	}
}

// Many texts again and again: whoever reads them, each is told at its place.
func TestWholeCallsAnswerAlikeAgain(t *testing.T) {
	t.Parallel()
	var texts []string
	for i := range 60 {
		text := fmt.Sprintf("module M%d where\n%sx = %d\nf %d = \"\"\n", i, strings.Repeat("-- a line that is read\n", i*97%61*10), i, i)
		if i > 0 {
			text = strings.Replace(text, "where\n", fmt.Sprintf("where\nimport M%d (f)\n", i*31%i), 1)
		}
		texts = append(texts, text)
	}
	texts = append(texts, soundMain)
	want := wholeText(checkWhole(t, texts...))
	bad := slices.Clone(texts)
	bad[59], bad[31], bad[8] = "x", "\t", "module"
	for range 60 {
		if wholeText(impl.Check(texts)) != want {
			t.Fatal("it is told another way")
		}
		if got := stageText(impl.Check(bad)); got != "stage 1 1 - 8" {
			t.Fatalf("another text is told: %s", got)
		}
	}
}

// When a call answers all that it has begun is at its end, however it answers; one that has said so may take a moment to be gone.
func TestWholeCallsLeaveNoGoroutines(t *testing.T) {
	calls, before := wholeCalls(t), runtime.NumGoroutine()
	for round := range 3 {
		for _, c := range calls {
			c.all()
			tries := 0
			for goroutinesInside() > 0 || runtime.NumGoroutine() > before {
				if tries++; tries > 500 {
					t.Fatalf("round %d: %d goroutines, not %d, behind\n%s", round, runtime.NumGoroutine(), before, c.what())
				}
				time.Sleep(time.Millisecond)
			}
		}
	}
}
