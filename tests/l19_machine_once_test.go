package tests

import (
	"strconv"
	"strings"
	"testing"

	"loop.example/g00017/impl"
)

// countDown has a term that takes seven steps for each of a count (two cases, two lets, two prims and a call) and four cells, and comes to 0.
func countDown(count int) string {
	return `(let go = (\n -> (case (primEq n 0) of { True -> 0; False -> (case (primSub n 1) of m { _ -> (go m) }) })) in (go ` + strconv.Itoa(count) + `))`
}

// What is named is worked out once: however often it is asked for, the steps of what stands behind the name are taken once, and one update is made.
func TestRunsWorkOutOnce(t *testing.T) {
	t.Parallel()
	run := func(text string) impl.RunResult {
		r := slowRun{impl.FormsOf(readCore(text)), 1, "", 100000, 50000}
		got := r.check(t)
		if got.Outcome.End != impl.EndDone || got.Outcome.Out != "0" {
			t.Errorf("%s answers %s", text, shortRun(got))
		}
		return got
	}
	names := map[string]string{
		"a let":                  `(let x = $ in #)`,
		"an argument":            `((\x -> #) $)`,
		"a field":                `(case (P $) of { P x -> # })`,
		"a name for a name":      `(let y = $ in (let x = y in #))`,
		"names in a ring":        `(let y = x; x = $ in (primSeq y #))`,
		"what a function has":    `(let f = (\y -> (primAdd x y)); x = $ in (primSeq (f 0) (primSeq (f 0) #)))`,
		"what a function takes":  `(let f = ((\x y -> #) $) in (primSeq (f 1) (f 2)))`,
		"a field handed on":      `(case (P $) of p { P y -> (primSeq y (case p of { P x -> # })) })`,
		"something in a closure": `(let x = $; g = (\u -> x) in (primSeq (g 1) (primSeq (g 2) #)))`,
	}
	for what, text := range names {
		for uses := 1; uses <= 5; uses++ {
			asked := `(primShow x)`
			for range uses - 1 {
				asked = `(primSeq x ` + asked + `)`
			}
			at := func(count int) impl.RunResult {
				return run(strings.ReplaceAll(strings.ReplaceAll(text, "$", countDown(count)), "#", asked))
			}
			few, many := at(10), at(110)
			steps, made := many.Outcome.Steps-few.Outcome.Steps, many.Made-few.Made
			if steps != 100*7 || made != 100*4 || many.Updates != few.Updates {
				t.Errorf("%s, asked for %d times: 100 counts more take %d steps, %d cells, %d updates", what, uses, steps, made, many.Updates-few.Updates)
			}
		}
	}
	// A function's body is worked out at each call.
	called := func(count int) int64 {
		return run(`(let f = (\u -> ` + countDown(count) + `) in (primShow (primAdd (f 1) (f 2))))`).Outcome.Steps
	}
	if steps := called(110) - called(10); steps != 2*100*7 {
		t.Errorf("two calls: 100 counts more take %d steps", steps)
	}
}

// What is not asked for is not worked out: an error, what asks for itself, runs without end or waits too deep, or is stuck, left aside, takes no step.
func TestRunsLeaveAside(t *testing.T) {
	t.Parallel()
	for _, text := range []string{
		`(let x = $ in "a")`,
		`(let x = $; y = x; z = (C x y) in (primSeq z "a"))`,
		`((\x -> "a") $)`,
		`((\x y z -> y) $ "a" $)`,
		`(case (P $) of { P x -> "a" })`,
		`(case (P $ "a") of x { P y z -> z })`,
		`(case A of { A -> "a"; B -> $; _ -> $ })`,
		`(case C of { A -> $; _ -> "a" })`,
		`(primSeq (\x -> $) "a")`,
		`(primSeq ((\x y -> $) $) "a")`,
		`(case "a" of { : h r -> (case (: $ (: h r)) of { : i s -> s }) })`,
		`(let f = (\x y -> (case x of { True -> "a"; False -> y })) in (f True $))`,
	} {
		var first impl.RunResult
		for i, bad := range []string{
			`(primError "e")`, `(primShow (primDiv 1 0))`, `(let l = l in l)`, `(let f = (\x -> (f x)) in (f 1))`, `(let f = (\x -> (primAdd 1 (f x))) in (f 1))`, `(1 1)`, `(case A of { B -> 1 })`, `"text"`,
		} {
			c := readCore(strings.ReplaceAll(text, "$", bad))
			got := slowRun{impl.FormsOf(c), 1, "", someSteps, 100}.check(t)
			if i == 0 {
				first = got
			}
			if got.Outcome.End != impl.EndDone || got.Outcome.Out != "a" || got.Outcome != first.Outcome || got.Made != first.Made || got.Updates != first.Updates {
				t.Errorf("%s with %s answers %s, with an error %s", text, bad, shortRun(got), shortRun(first))
			}
		}
	}
}

// What asks for itself is told as a loop, whatever the heap.
func TestRunsOfWhatAsksForItself(t *testing.T) {
	t.Parallel()
	checkRanTerms(t, []ranTerm{
		{`(let x = x in x)`, impl.EndLoop, "", "", 3, 1, 0},
		{`(let x = (primAdd x 1) in (primShow x))`, impl.EndLoop, "", "", 4, 2, 0},
		{`(let x = (primAdd 1 x) in (primShow x))`, impl.EndLoop, "", "", 4, 2, 0},
		{`(let x = (primSeq x "a") in x)`, impl.EndLoop, "", "", 4, 1, 0},
		{`(let x = (primSeq 1 x) in x)`, impl.EndLoop, "", "", 5, 2, 0},
		{`(let x = (case x of { _ -> "a" }) in x)`, impl.EndLoop, "", "", 4, 1, 0},
		{`(let x = (x 1) in x)`, impl.EndLoop, "", "", 4, 2, 0},
		{`(let x = (let y = 1 in x) in x)`, impl.EndLoop, "", "", 4, 2, 0},
		{`(let x = y; y = x in x)`, impl.EndLoop, "", "", 4, 2, 0},
		{`(let x = y; y = z; z = x in y)`, impl.EndLoop, "", "", 5, 3, 0},
		{`(let f = (\y -> y); x = (f x) in x)`, impl.EndLoop, "", "", 4, 2, 0},
		{`(let x = (case p of { P y -> y }); p = (P x) in x)`, impl.EndLoop, "", "", 6, 3, 1},
		{`(let l = (: 'a' (: 'b' r)); r = (case r of { _ -> "c" }) in l)`, impl.EndLoop, "ab", "", 8, 6, 1},
		// What asks for itself only once it is a value does not loop.
		{`(let x = (let y = (: 'a' x) in y) in (case x of { : h r -> (case r of { : i s -> (: h (: i [])) }) }))`, impl.EndDone, "aa", "", 12, 7, 2},
	})
	// Where cells are collected over and over, a hole stays one.
	filled := `(let x = (case ` + countDown(500) + ` of { _ -> (primAdd x 1) }) in (primShow x))`
	for _, heap := range []int64{100, 101, 200, 5000} {
		if got := (slowRun{impl.FormsOf(readCore(filled)), 1, "", 100000, heap}).check(t); got.Outcome.End != impl.EndLoop || heap < 1000 && got.Collections < 5 {
			t.Errorf("in a heap of %d: answers %s", heap, shortRun(got))
		}
	}
}

// A sizedLoop is a term with $ for how long it runs, beside a text that is held for good, so that its least heap is no less than may be.
type sizedLoop struct {
	what, text string
	out        string
}

func (l sizedLoop) least(t *testing.T, count int) (least int64, got impl.RunResult) {
	t.Helper()
	text := `(let app = (\a b -> (case a of { [] -> b; : x y -> (: x (app y b)) })); load = ` + ballast + ` in (primSeq load (app ` + strings.ReplaceAll(l.text, "$", strconv.Itoa(count)) + ` load)))`
	r := slowRun{impl.FormsOf(readCore(text)), 1, "", impl.MaxSteps, impl.MaxHeap}
	got = r.answer()
	if want := strings.ReplaceAll(l.out, "$", strconv.Itoa(count)); got.Outcome.End != impl.EndDone || !strings.HasPrefix(got.Outcome.Out, want) || !strings.HasSuffix(got.Outcome.Out, ballast[1:61]) {
		t.Errorf("%s: %d answers %s", l.what, count, shortRun(got))
	}
	return r.checkHeaps(t), got
}

// Loops that carry along what they have worked out run in a heap of one size, those that don't do not.
func TestLoopsInAHeapOfOneSize(t *testing.T) {
	t.Parallel()
	loops := []sizedLoop{
		{"a count down", `(primShow ` + countDown(7) + `)`, "0"},
		{"a count up", `(let go = (\n -> (case (primEq n $) of { True -> "done"; False -> (case (primAdd n 1) of m { _ -> (go m) }) })) in (go 0))`, "done"},
		{"a sum", `(let go = (\s n -> (case (primEq n 0) of { True -> (primShow (primMod s 2)); False -> (case (primAdd s 2) of r { _ -> (case (primSub n 1) of m { _ -> (go r m) }) }) })) in (go 0 $))`, "0"},
		{"what is forced where it is asked for", `(let go = (\n -> (primSeq n (case (primEq n 0) of { True -> "done"; False -> (go (primSub n 1)) }))) in (go $))`, "done"},
		{"a pair", `(let go = (\p n -> (case p of { P a b -> (case (primEq n 0) of { True -> (primShow a); False -> (case (primSub n 1) of m { _ -> (go (P b a) m) }) }) })) in (go (P 1 2) $))`, ""},
		{"a list made and read", `(let from = (\n -> (case (primEq n 0) of { True -> []; False -> (case (primSub n 1) of m { _ -> (: m (from m)) }) })); len = (\l n -> (case l of { [] -> (primShow (primSub n $)); : h r -> (case (primAdd n 1) of m { _ -> (len r m) }) })) in (len (from $) 0))`, "0"},
		{"an output that is made as it is told", `(let go = (\n -> (case (primEq n 0) of { True -> []; False -> (case (primSub n 1) of m { _ -> (: 'a' (go m)) }) })) in (go $))`, "a"},
		{"functions that are handed on", `(let go = (\f n -> (case (primEq n 0) of { True -> (primShow (f 1)); False -> (case (primSub n 1) of m { _ -> (go (\x -> (primAdd x 1)) m) }) })) in (go (\x -> x) $))`, "2"},
		{"a ring that is gone through", `(let ring = (: 1 (: 1 ring)); go = (\l n -> (case (primEq n 0) of { True -> "done"; False -> (case l of { : h r -> (case (primSub n h) of m { _ -> (go r m) }) }) })) in (go ring $))`, "done"},
		{"great numbers", `(let go = (\s n -> (case (primEq n 0) of { True -> "done"; False -> (case (primMod (primAdd (primMul s 3) 1) 1267650600228229401496703205376) of r { _ -> (case (primSub n 1) of m { _ -> (go r m) }) }) })) in (go 1 $))`, "done"},
		{"texts", `(let go = (\n -> (case (primEq n 0) of { True -> "done"; False -> (case "twenty chars of text" of { : h r -> (case (primSub n 1) of m { _ -> (go m) }) }) })) in (go $))`, "done"},
		{"arguments taken one by one", `(let f = (\a b n -> (case (primEq n 0) of { True -> "done"; False -> (case (primSub n 1) of m { _ -> (((f b) a) m) }) })) in (f 1 2 $))`, "done"},
	}
	for _, loop := range loops {
		first, _ := loop.least(t, 20)
		for _, count := range []int{21, 100, 6000} {
			least, got := loop.least(t, count)
			if least != first || loop.what != "a count down" && got.Made < int64(count) {
				t.Errorf("%s: a length of 20 asks for %d cells, of %d for %d", loop.what, first, count, least)
			}
		}
	}
	for _, loop := range []sizedLoop{
		{"a sum that is not worked out", `(let go = (\s n -> (case (primEq n 0) of { True -> (primShow s); False -> (case (primSub n 1) of m { _ -> (go (primAdd s 2) m) }) })) in (go 0 $))`, ""},
		{"a list that is held", `(let from = (\n -> (case (primEq n 0) of { True -> []; False -> (case (primSub n 1) of m { _ -> (: 'a' (from m)) }) })); l = (from $); len = (\l n -> (case l of { [] -> (primShow n); : h r -> (case (primAdd n 1) of m { _ -> (len r m) }) })) in (app (len l 0) l))`, "$"},
		{"what waits for the rest", `(let go = (\n -> (case (primEq n 0) of { True -> 0; False -> (case (primSub n 1) of m { _ -> (primAdd 1 (go m)) }) })) in (primShow (go $)))`, "$"},
	} {
		few, _ := loop.least(t, 100)
		many, _ := loop.least(t, 1100)
		if many < few+1000 {
			t.Errorf("%s: a length of 100 asks for %d cells, of 1100 for %d", loop.what, few, many)
		}
	}
}
