package tests

import (
	"fmt"
	"runtime/debug"
	"slices"
	"strings"
	"testing"
	"time"

	"loop.example/g00017/impl"
)

// soon has a call that is to be answered in a second or two, on a slow machine too.
func soon[T any](t *testing.T, what string, call func() T) T {
	t.Helper()
	begin := time.Now()
	got := call()
	if took := time.Since(begin); took > time.Minute {
		t.Errorf("%s takes %v", what, took)
	}
	return got
}

// checkSoon asks for the stage of texts.
func checkSoon(t *testing.T, what string, texts []string, want string) impl.CheckResult {
	t.Helper()
	got := soon(t, what, func() impl.CheckResult { return impl.Check(texts) })
	if text := stageText(got); text != want {
		t.Errorf("%s: there is %q, not %q", what, text, want)
	}
	return got
}

// Thousands of texts, as long as may be, or each behind another one.
func TestVeryManyTexts(t *testing.T) {
	t.Parallel()
	const count = 3000
	comment := strings.Repeat("-- "+strings.Repeat("x", 96)+"\n", 599)
	long := make([]string, count)
	for i := range long {
		long[i] = fmt.Sprintf("module M%d where\n%s", i, comment)
	}
	checkSoon(t, "long texts", long, "stage 4 0 - -")
	long[count-1] += comment
	checkSoon(t, "a longer one", long, fmt.Sprintf("stage 1 15 - %d", count-1))
	chain := []string{"module M0 where\nx0 = \"told\"\n"}
	for i := 1; i < count; i++ {
		chain = append(chain, fmt.Sprintf("module M%d where\nimport M%d\nx%d = x%d\n", i, i-1, i, i-1))
	}
	main := fmt.Sprintf("module Main where\nimport M%d\nmain = x%d\n", count-1, count-1)
	slices.Reverse(chain)
	if c := checkSoon(t, "a chain", append([]string{main}, chain...), ""); len(c.Types) != count+1 {
		t.Errorf("there are %d types", len(c.Types))
	}
	run := soon(t, "a run", func() impl.RunResult {
		return impl.RunSource(append([]string{main}, chain...), nil, "", impl.MaxSteps, impl.MaxHeap)
	})
	if run.Outcome.Out != "told" || run.Outcome.End != impl.EndDone {
		t.Errorf("tells %s", shortRun(run))
	}
	checkSoon(t, "a round", append([]string{"module M0 where\nimport Main\nx0 = \"\"\n", main}, chain[:count-1]...), "stage 2 4 - -")
	checkSoon(t, "two of a name", append([]string{main}, slices.Concat(chain, chain[count-1:])...), "stage 2 2 M0 -")
	checkSoon(t, "a name that is none", append([]string{main}, append(chain[:count-1:count-1], "module M0 where\nx0 = y\n")...), "stage 2 9 M0 y")
	checkSoon(t, "a hundred thousand empty texts", make([]string, 100000), "stage 1 1 - 0")
}

// Texts of as many things as there may be, each of which leads to all others.
func TestVeryManyThings(t *testing.T) {
	t.Parallel()
	const count = 1500
	body := countedUp(count, "f# x = g#", "\n") + "\n" + countedUp(count-1, "g# = f#", "\n") + fmt.Sprintf("\ng%d y = f1 1\n", count)
	var texts []string
	for i := range 40 {
		texts = append(texts, fmt.Sprintf("module M%d where\n%s", i, body))
	}
	checkSoon(t, "groups", texts, "stage 3 2 - M0.f1")
	body = countedUp(count, "f# 1 = 2", "\n") + "\n"
	for i := range texts {
		texts[i] = fmt.Sprintf("module M%d where\n%s", i, body)
	}
	checkSoon(t, "things", texts, "stage 4 0 - -")
	checkSoon(t, "things that make too large a term", append(texts, soundMain), "stage 5 0 - -")
	c := checkSoon(t, "warnings", []string{inMain("main = \"\"\n" + countedUp(900, "f# 1 = 2\nf# 1 = 3", "\n"))}, "")
	if len(c.Warnings) != 1800 || len(c.Types) != 901 || c.Warnings[1799] != (impl.Warning{Name: "Main.f900", Kind: 2, Row: 2}) {
		t.Errorf("there are %d warnings of %d things", len(c.Warnings), len(c.Types))
	}
}

// A program with a core of more than half of what may be, behind each pass as often as may be, and behind all of them.
func TestGreatSourcesBehindPasses(t *testing.T) {
	t.Parallel()
	const count = 480
	text := "module Main where\nmain = primShow (f0 1)\n"
	for i := range count {
		text += fmt.Sprintf("f%d x = primAdd (f%d x) (case x of { 1 -> 2 ; _ -> 3 })\n", i, i+1)
	}
	text += fmt.Sprintf("f%d x = x\n", count)
	c := checkSoon(t, "the program", []string{text}, "")
	if size := impl.CoreSize(c.Core); size < impl.MaxCore/2 {
		t.Errorf("its size is %d", size)
	}
	want := fmt.Sprint(2*count + 1)
	lists := [][]int64{nil, slices.Repeat([]int64{1, 2, 3, 4, 5, 6}, 6), slices.Repeat([]int64{6, 5, 4, 3, 2, 1}, 6)}
	for p := range int64(6) {
		lists = append(lists, slices.Repeat([]int64{p + 1}, impl.MaxPasses))
	}
	for _, list := range lists {
		run := soon(t, fmt.Sprint(list), func() impl.RunResult {
			return impl.RunSource([]string{text}, list, "", impl.MaxSteps, impl.MaxHeap)
		})
		if run.Outcome.Out != want || run.Outcome.End != impl.EndDone {
			t.Errorf("behind %v it tells %s", list, shortRun(run))
		}
	}
}

// Programs that take all steps, in the least heap and in the greatest one; they tell alike, and so do those behind a pass.
func TestMostStepsOfSources(t *testing.T) {
	t.Parallel()
	for _, row := range []struct{ what, main string }{
		{"no work", "main :: [Char]\nmain = f 1\nf x = primSeq x (f x)"},
		{"a count", "main = 'a' : f 1\nf n = primSeq n (f (primAdd n 1))"},
		{"lists made anew", "main :: [Char]\nmain = f \"a\"\nf l = case l of { x : r -> primSeq x (f [x, x]) }"},
		{"functions", "main :: [Char]\nmain = f (\\ y -> y)\nf g = primSeq (g 1) (f (\\ y -> primAdd y 1))"},
		{"texts", "main = 'b' : f 1\nf n = case \"twenty chars of text\" of { _ : r -> primSeq n (primSeq r (f n)) }"},
		{"a method", "main :: [Char]\nmain = f 1\nclass K a where { k :: a -> a }\ninstance K Int where { k x = primMod (primAdd x 1) 7 }\nf x = primSeq x (f (k x))"},
		{"a range", "main = go [1 ..  1000000000000]\ngo l = case l of { x : r -> go r ; _ -> \"\" }"},
		{"great products", "main :: [Char]\nmain = f 123456789012345678901234567890123456789012345678901234567890\nf n = primSeq (primMul n n) (f n)"},
	} {
		var all []impl.RunResult
		for _, heap := range []int64{200, impl.MaxHeap} {
			got := soon(t, row.what, func() impl.RunResult {
				return impl.RunSource([]string{inMain(row.main)}, nil, "", impl.MaxSteps, heap)
			})
			if got.Outcome.End != impl.EndSteps || got.Outcome.Steps != impl.MaxSteps || got.Peak > heap {
				t.Errorf("%s in a heap of %d tells %s", row.what, heap, shortRun(got))
			}
			all = append(all, got)
		}
		if all[0].Outcome != all[1].Outcome || all[0].Made != all[1].Made || all[0].Updates != all[1].Updates {
			t.Errorf("%s hangs on the heap: %s, %s", row.what, shortRun(all[0]), shortRun(all[1]))
		}
	}
	grows := []string{inMain("main :: [Char]\nmain = f \"\"\nf l = primSeq l (f ('a' : l))")}
	for _, heap := range []int64{100, 5000, impl.MaxHeap} {
		got := soon(t, "what grows", func() impl.RunResult { return impl.RunSource(grows, nil, "", impl.MaxSteps, heap) })
		if got.Outcome.End != impl.EndHeap || got.Peak > heap || got.Made < heap {
			t.Errorf("what grows in a heap of %d tells %s", heap, shortRun(got))
		}
	}
}

// Requests of many megabytes.
func TestVeryLongRequests(t *testing.T) {
	t.Parallel()
	const head, tail = "passes\nsteps 1000\nheap 1000\ninput ", "\nmodule\nmodule Main where\nmain = \"\"\n"
	for _, row := range []struct{ what, text, want string }{
		{"passes", "passes" + strings.Repeat(" beta", 1000000) + head[len("passes"):] + `""` + tail, "Main.main :: [Char]\nout \"\"\nend 7 \"\"\n"},
		{"passes, the last one none", "passes" + strings.Repeat(" beta", 1000000) + " x" + head[len("passes"):] + `""` + tail, "bad\n"},
		{"digits", "passes\nsteps " + strings.Repeat("1", 10000000) + "\nheap 1\ninput \"\"" + tail, "bad\n"},
		{"an input", head + `"` + strings.Repeat(`\n`, 5000000) + `"` + tail, "bad\n"},
		{"an input without an end", head + `"` + strings.Repeat(`\"`, 5000000) + tail, "bad\n"},
		{"modules", head + `""` + tail + strings.Repeat("module\n", 200000), "stage 1 1 - 1\n"},
		{"lines", head + `""` + tail + strings.Repeat("\n", 10000000), "stage 1 15 - 0\n"},
		{"a line", head + `""` + tail + "-- " + strings.Repeat("x", 10000000) + "\n", "stage 1 15 - 0\n"},
		{"a line without its line feed", head + `""` + tail + strings.Repeat("\n", 10000000) + "x", "bad\n"},
		{"lines ahead of a module", head + `""` + strings.Repeat("\n", 10000000) + tail, "bad\n"},
	} {
		if got := soon(t, row.what, func() string { return impl.Serve(row.text) }); got != row.want {
			t.Errorf("%s: there is %.200q, not %q", row.what, got, row.want)
		}
	}
	many := head + `"in"` + "\nmodule\nmodule Main where\nimport M999\nmain :: [Char] -> [Char]\nmain x = primAppend x x999\n"
	want := "M0.x0 :: [Char]\n"
	for i := range 1000 {
		if i > 0 {
			many += fmt.Sprintf("module\nmodule M%d where\nimport M%d\nx%d = x%d\n", i, i-1, i, i-1)
			want += fmt.Sprintf("M%d.x%d :: [Char]\n", i, i)
		} else {
			many += "module\nmodule M0 where\nx0 = \"put\"\n"
		}
	}
	want += "Main.main :: [Char] -> [Char]\nout \"\"\nend 8 \"\"\n"
	if got := soon(t, "many modules", func() string { return impl.Serve(many) }); got != want {
		checkLong(t, "many modules", got, want)
	}
}

// Texts, types, terms and runs that are deep need no deep stack, in goroutines neither. (No other test is to run beside it.)
func TestSourcesOnASmallStack(t *testing.T) {
	defer debug.SetMaxStack(debug.SetMaxStack(smallStack))
	deep := strings.Repeat("(", 29000) + "1" + strings.Repeat(")", 29000)
	for _, row := range [][2]string{
		{"main = \"\"\nx = " + deep, ""},
		{"main = \"\"\nx = " + deep[1:], "stage 1 1 - 0"},
		{"main = \"\"\nx = " + strings.Repeat("[", 29000) + strings.Repeat("]", 29000), "stage 1 2 - 0"},
		{"main = \"\"\nx = " + strings.Repeat("[", 190) + strings.Repeat("]", 190), ""},
		{"main = \"\"\nx = " + strings.Repeat("\\ x -> ", 190) + "x", ""},
		{"main = \"\"\nx = [" + strings.Repeat("1,", 900) + "1]", ""},
		{"main = \"\"\nx = " + strings.Repeat("1 : ", 900) + "[]", ""},
		{"main = \"\"\nx = " + strings.Repeat("1 : ", 1200) + "[]", "stage 5 0 - -"},
	} {
		texts := []string{inMain(row[0])}
		for i := range 20 {
			texts = append(texts, "module "+numbered("M", i)+" where\nx = "+deep+"\n")
		}
		if got := stageText(impl.Check(texts)); got != row[1] {
			t.Errorf("%.60q has %q, not %q", row[0], got, row[1])
		}
	}
	run := impl.RunSource([]string{inMain("main = primShow (sum 4000)\nsum n = if primEq n 0 then 0 else primAdd n (sum (primSub n 1))")}, []int64{1, 2, 3, 4, 5, 6}, "", impl.MaxSteps, impl.MaxHeap)
	if run.Outcome.Out != "8002000" {
		t.Errorf("tells %s", shortRun(run))
	}
}
