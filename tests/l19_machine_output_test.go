package tests

import (
	"fmt"
	"strings"
	"testing"

	"loop.example/g00017/impl"
)

// A ranTerm row has a term, with all that is told of the run of its forms in a heap that is never full.
type ranTerm struct {
	text                 string
	end                  int64
	out, error           string
	steps, made, updates int64
}

// checkRanTerms compares runs with rows, with the second reading, with what the term means, and with runs in other steps and heaps.
func checkRanTerms(t *testing.T, rows []ranTerm) {
	t.Helper()
	for _, row := range rows {
		c := readCore(row.text)
		run := slowRun{impl.FormsOf(c), 1, "", someSteps, 50000}
		want := ran{"", row.end, row.out, row.error, row.steps, row.made, row.updates}.want()
		got := run.check(t)
		if got != want {
			t.Errorf("%s\nanswers %s\nnot     %s", row.text, shortRun(got), shortRun(want))
		}
		run.checkSteps(t)
		run.checkHeaps(t)
		meaning := impl.Meaning(c, 1, "", impl.MaxSteps)
		if !impl.Stands(meaning, got.Outcome) || got.Outcome.End != meaning.End || got.Outcome.Out != meaning.Out || got.Outcome.Error != meaning.Error {
			t.Errorf("%s\nanswers %s\nand means %v", row.text, shortRun(got), meaning)
		}
	}
}

func TestRunsOfWhatIsNoListOfChars(t *testing.T) {
	t.Parallel()
	checkRanTerms(t, []ranTerm{
		{`1`, impl.EndStuck, "", "", 1, 1, 0},
		{`A`, impl.EndStuck, "", "", 1, 1, 0},
		{`(\x -> x)`, impl.EndStuck, "", "", 2, 1, 0},
		{`((\x y -> x) 1)`, impl.EndStuck, "", "", 3, 3, 0},
		{`(P 'a' [])`, impl.EndStuck, "", "", 3, 3, 0},
		// A field that is no char.
		{`(: 1 [])`, impl.EndStuck, "", "", 3, 3, 0},
		{`(: [] [])`, impl.EndStuck, "", "", 3, 3, 0},
		{`(: "a" [])`, impl.EndStuck, "", "", 4, 6, 1},
		{`(: (\x -> x) [])`, impl.EndStuck, "", "", 3, 3, 0},
		{`(: 'a' (: 'b' (: 1 (primError "e"))))`, impl.EndStuck, "ab", "", 7, 7, 0},
		{`(: 'a' (: (primAdd 60 5) []))`, impl.EndStuck, "a", "", 8, 8, 1},
		// A list that is none.
		{`(: 'a' 1)`, impl.EndStuck, "a", "", 3, 3, 0},
		{`(: 'a' 'b')`, impl.EndStuck, "a", "", 3, 3, 0},
		{`(: 'a' (: 'b' (primAdd 1 2)))`, impl.EndStuck, "ab", "", 8, 8, 1},
		{`(: 'a' (\x -> x))`, impl.EndStuck, "a", "", 3, 3, 0},
		{`(:)`, impl.EndStuck, "", "", 1, 1, 0},
		{`(: 'a')`, impl.EndStuck, "", "", 2, 2, 0},
		{`(: 'a' [] [])`, impl.EndStuck, "", "", 4, 4, 0},
		{`([] 'a')`, impl.EndStuck, "", "", 2, 2, 0},
		{`(: 'a' ([] 'b'))`, impl.EndStuck, "a", "", 4, 4, 0},
	})
}

func TestRunsOfWhatIsToldAheadOfTheEnd(t *testing.T) {
	t.Parallel()
	checkRanTerms(t, []ranTerm{
		{`(: 'a' (: 'b' (primError "e")))`, impl.EndError, "ab", "e", 8, 9, 1},
		{`(: 'a' (: (primError "e") []))`, impl.EndError, "a", "e", 8, 9, 1},
		{`(: 'a' (primShow (primDiv 1 0)))`, impl.EndError, "a", "division by zero", 8, 6, 0},
		{`(: (primError "first") (primError "second"))`, impl.EndError, "", "first", 6, 15, 1},
		{`(let x = x in (: 'a' (: 'b' x)))`, impl.EndLoop, "ab", "", 6, 5, 0},
		{`(let x = x in (: 'a' (: x [])))`, impl.EndLoop, "a", "", 6, 5, 0},
		{`(let l = (: 'a' (case l of { : h r -> r })) in l)`, impl.EndLoop, "a", "", 8, 4, 1},
		{`(: 'a' (1 1))`, impl.EndStuck, "a", "", 6, 5, 0},
		// The cells of a list are told as they are come to, each once.
		{`(let l = (: 'a' (: 'b' [])) in l)`, impl.EndDone, "ab", "", 7, 6, 1},
		{`(let c = (primChr (primAdd 60 5)) in (: c (: c (: c []))))`, impl.EndDone, "AAA", "", 10, 10, 2},
		{`(primShow (primMul 6 7))`, impl.EndDone, "42", "", 5, 9, 1},
	})
}

// The text of an error is worked out as the output is, but not told.
func TestRunsOfErrorTexts(t *testing.T) {
	t.Parallel()
	checkRanTerms(t, []ranTerm{
		{`(primError "stop")`, impl.EndError, "", "stop", 3, 10, 1},
		{`(primError [])`, impl.EndError, "", "", 2, 1, 0},
		{`(primError (: 'a' (: 'b' [])))`, impl.EndError, "", "ab", 6, 5, 0},
		{`(primError (primShow (primAdd 1 2)))`, impl.EndError, "", "3", 7, 8, 2},
		{`(: 'x' (: 'y' (primError "stop")))`, impl.EndError, "xy", "stop", 8, 15, 1},
		{`(primError (: (primChr 97) (: 'b' (primShow 3))))`, impl.EndError, "", "ab3", 10, 11, 2},
		{`(let x = (primChr 97) in (primError (: x (: x (: x [])))))`, impl.EndError, "", "aaa", 8, 7, 1},
		// It errs, loops or is stuck while it is worked out.
		{`(primError (primError "inner"))`, impl.EndError, "", "inner", 5, 13, 1},
		{`(primError (: 'a' (primError "inner")))`, impl.EndError, "", "inner", 7, 15, 1},
		{`(primError (: 'a' (: (primError "inner") (primError "never"))))`, impl.EndError, "", "inner", 9, 17, 1},
		{`(primError (: 'a' (: (primChr 256) [])))`, impl.EndError, "", "no char", 8, 6, 0},
		{`(primError (: 'a' (primShow (primDiv 1 0))))`, impl.EndError, "", "division by zero", 9, 6, 0},
		{`(: 'x' (primError (: 'a' (: (primError (: 'b' (primError "most inner"))) []))))`, impl.EndError, "x", "most inner", 16, 33, 1},
		{`(let x = x in (primError x))`, impl.EndLoop, "", "", 3, 1, 0},
		{`(let x = x in (: 'x' (primError (: 'a' x))))`, impl.EndLoop, "x", "", 8, 6, 0},
		{`(let x = (primError x) in x)`, impl.EndLoop, "", "", 3, 1, 0},
		{`(let x = (primError (: 'a' x)) in (: 'x' x))`, impl.EndLoop, "x", "", 6, 5, 0},
		{`(primError 1)`, impl.EndStuck, "", "", 2, 1, 0},
		{`(primError (\x -> x))`, impl.EndStuck, "", "", 2, 1, 0},
		{`(: 'x' (primError (: 1 [])))`, impl.EndStuck, "x", "", 7, 6, 0},
		{`(: 'x' (primError (: 'a' (: [] []))))`, impl.EndStuck, "x", "", 9, 8, 0},
		{`(primError (: 'a' 1))`, impl.EndStuck, "", "", 4, 3, 0},
		{`(primError (: 'a' (1 1)))`, impl.EndStuck, "", "", 7, 5, 0},
	})
}

// A longRun is a term that tells much, or an error of a long text.
type longRun struct {
	text       string
	end        int64
	out, error string
}

// Exactly as many chars as may be told, and one more, of the output and of the texts of errors.
func TestRunsOfMostOutput(t *testing.T) {
	t.Parallel()
	most := strings.Repeat("a", impl.MaxOut)
	rows := []longRun{
		{`(let x = (: 'a' x) in x)`, impl.EndOut, most, ""},
		{`(let x = (: 'a' x) in (primError x))`, impl.EndError, "", most},
		{`(let x = (: 'a' x) in (: 'x' (primError x)))`, impl.EndError, "x", most},
		{`(let x = (: (primChr 97) x) in (primError x))`, impl.EndError, "", most},
	}
	for _, row := range []struct {
		count    int64
		end      string
		out, err int64
		error    string
	}{
		{impl.MaxOut - 1, `[]`, impl.EndDone, impl.EndError, most[1:]},
		{impl.MaxOut, `[]`, impl.EndDone, impl.EndError, most},
		{impl.MaxOut, `"b"`, impl.EndOut, impl.EndError, most},
		{impl.MaxOut + 1, `[]`, impl.EndOut, impl.EndError, most},
		{impl.MaxOut, `(primError "e")`, impl.EndError, impl.EndError, "e"},
		{impl.MaxOut, `(: (primError "e") [])`, impl.EndError, impl.EndError, "e"},
		{impl.MaxOut, `(: 'b' (primError "e"))`, impl.EndOut, impl.EndError, most},
		{impl.MaxOut, `(let x = x in x)`, impl.EndLoop, impl.EndLoop, ""},
		{impl.MaxOut, `1`, impl.EndStuck, impl.EndStuck, ""},
		{impl.MaxOut, `(: 1 [])`, impl.EndStuck, impl.EndStuck, ""},
		{impl.MaxOut, `(: 'b' 1)`, impl.EndOut, impl.EndError, most},
	} {
		text, told := repeatChars("'a'", row.count, row.end), longRun{"", row.out, most[:min(row.count, impl.MaxOut)], ""}
		if row.out == impl.EndError {
			told.error = row.error
		}
		rows = append(rows, longRun{text, told.end, told.out, told.error}, longRun{`(primError ` + text + `)`, row.err, "", row.error})
	}
	for _, row := range rows {
		c := readCore(row.text)
		run := slowRun{impl.FormsOf(c), 1, "", impl.MaxSteps, 200}
		got := run.check(t)
		want := got
		want.Outcome = impl.Outcome{End: row.end, Out: row.out, Error: row.error, Steps: got.Outcome.Steps}
		if got != want || got.Peak > 200 {
			t.Errorf("%.80s answers %s", row.text, shortRun(got))
		}
		if meaning := impl.Meaning(c, 1, "", impl.MaxSteps); !impl.Stands(meaning, got.Outcome) || meaning.End != got.Outcome.End || meaning.Error != got.Outcome.Error {
			t.Errorf("%.80s means end %d", row.text, meaning.End)
		}
	}
	for _, count := range []int64{impl.MaxOut - 1, impl.MaxOut, impl.MaxOut + 1, impl.MaxSource, 90000} {
		text := strings.Repeat("xyz", 30000)[:count]
		told := text[:min(count, impl.MaxOut)]
		list := []impl.Form{{Body: impl.Code{Kind: impl.KText, Name: text}}}
		want := impl.RunResult{Outcome: impl.Outcome{Out: told, Steps: 1}, Made: 2*count + 1, Peak: 2*count + 1}
		if count > impl.MaxOut {
			want.Outcome.End = impl.EndOut
		}
		if got := (slowRun{list, 1, "", 1, impl.MaxHeap}).check(t); got != want {
			t.Errorf("a text of %d answers %s", count, shortRun(got))
		}
		failing := append(readForms("0 0 0 1 (let s0 (make 1) (prim primError s0))"), list...)
		want = impl.RunResult{Outcome: impl.Outcome{End: impl.EndError, Error: told, Steps: 3}, Made: 2*count + 2, Updates: 1, Peak: 2*count + 2}
		if got := (slowRun{failing, 1, "", 100, impl.MaxHeap}).check(t); got != want {
			t.Errorf("an error of a text of %d answers %s", count, shortRun(got))
		}
	}
}

// In mode 2 the input's list is made ahead of all, all its cells at once, and takes no step.
func TestRunsInModes(t *testing.T) {
	t.Parallel()
	all := ""
	for b := range 256 {
		all += string([]byte{byte(255 - b)})
	}
	inputs := []string{"", "a", "hello\n", all, strings.Repeat("in ", impl.MaxOut/3), strings.Repeat("x", impl.MaxOut+1), strings.Repeat("x", impl.MaxSource)}
	for _, input := range inputs {
		told := impl.Outcome{Out: input}
		if len(input) > impl.MaxOut {
			told = impl.Outcome{End: impl.EndOut, Out: input[:impl.MaxOut]}
		}
		failed := impl.Outcome{End: impl.EndError, Error: told.Out}
		own := 2*int64(len(input)) + 1
		for _, row := range []struct {
			text          string
			mode          int64
			want          impl.Outcome
			steps         int64
			made, updates int64
		}{
			{`"a"`, 1, impl.Outcome{Out: "a"}, 1, 3, 0},
			{`(\x -> x)`, 1, impl.Outcome{End: impl.EndStuck}, 2, 1, 0},
			{`(\x -> x)`, 2, told, 3, own + 1, 0},
			{`(let f = (\x -> x) in f)`, 2, told, 3, own + 1, 0},
			{`((\x y -> y) 1)`, 2, told, 4, own + 3, 0},
			{`((\x -> (\y -> y)) 1)`, 2, told, 6, own + 3, 0},
			{`(\x -> "a")`, 2, impl.Outcome{Out: "a"}, 3, own + 4, 0},
			{`(\x -> (primError x))`, 2, failed, 3, own + 1, 0},
			{`(\x y -> x)`, 2, impl.Outcome{End: impl.EndStuck}, 2, own + 2, 0},
			{`"a"`, 2, impl.Outcome{End: impl.EndStuck}, 1, own + 3, 0},
			{`7`, 2, impl.Outcome{End: impl.EndStuck}, 1, own + 1, 0},
			{`(let f = f in f)`, 2, impl.Outcome{End: impl.EndLoop}, 3, own + 1, 0},
			{`(\x -> (case x of { [] -> []; : h r -> (: h []) }))`, 2, impl.Outcome{Out: input[:min(1, len(input))]}, 5 + min(1, int64(len(input))), own + 2 + min(1, int64(len(input))), 0},
		} {
			want := impl.RunResult{Outcome: row.want, Made: row.made, Updates: row.updates, Peak: row.made}
			want.Outcome.Steps = row.steps
			run := slowRun{impl.FormsOf(readCore(row.text)), row.mode, input, 100, impl.MaxHeap}
			if got := run.check(t); got != want {
				t.Errorf("%s, mode %d, input of %d: answers %s, not %s", row.text, row.mode, len(input), shortRun(got), shortRun(want))
			}
			run.checkSteps(t)
			run.checkHeaps(t)
		}
	}
}

// An input that has no room ends all ahead of the first step.
func TestRunsOfInputsTooLong(t *testing.T) {
	t.Parallel()
	list := impl.FormsOf(readCore(`(\x -> x)`))
	for _, row := range []struct {
		chars int
		heap  int64
		want  impl.RunResult
	}{
		{49, 100, impl.RunResult{Outcome: impl.Outcome{Out: strings.Repeat("c", 49), Steps: 3}, Made: 100, Peak: 100}},
		{50, 100, impl.RunResult{Outcome: impl.Outcome{End: impl.EndHeap}, Collections: 1}},
		{50, 101, impl.RunResult{Outcome: impl.Outcome{End: impl.EndHeap, Steps: 1}, Made: 101, Collections: 1, Peak: 101}},
		{50, 102, impl.RunResult{Outcome: impl.Outcome{Out: strings.Repeat("c", 50), Steps: 3}, Made: 102, Peak: 102}},
		{60000, 120000, impl.RunResult{Outcome: impl.Outcome{End: impl.EndHeap}, Collections: 1}},
		{60000, 120001, impl.RunResult{Outcome: impl.Outcome{End: impl.EndHeap, Steps: 1}, Made: 120001, Collections: 1, Peak: 120001}},
		{60000, 120002, impl.RunResult{Outcome: impl.Outcome{End: impl.EndOut, Out: strings.Repeat("c", 20000), Steps: 3}, Made: 120002, Peak: 120002}},
	} {
		if got := (slowRun{list, 2, strings.Repeat("c", row.chars), 9, row.heap}).check(t); got != row.want {
			t.Errorf("%d chars in a heap of %d: %s", row.chars, row.heap, shortRun(got))
		}
	}
}

// What fewer steps tell, step by step.
func TestWhatFewerStepsOfRunsTell(t *testing.T) {
	t.Parallel()
	list := impl.FormsOf(readCore(`(let f = (\n -> (: (primChr n) (f (primAdd n 1)))) in (f 65))`))
	if got, want := impl.FormatForms(list), "0 0 0 2 (let s0 (make 1 s0) (let s1 65 (app s0 s1)))\n1 1 1 4 (let s2 (make 2 s1) (let s3 (make 3 s0 s1) (con : s2 s3)))\n2 1 0 1 (prim primChr s0)\n3 2 0 3 (let s2 (make 4 s1) (app s0 s2))\n4 1 0 2 (let s1 1 (prim primAdd s0 s1))\n"; got != want {
		t.Fatalf("the forms are\n%s", got)
	}
	// Ahead: let, let, app. Each cell: let, let, con; its char: prim (the first) or prim, let, prim; the next cell: let, app.
	toldAt := []int64{7}
	for len(toldAt) < 10 {
		toldAt = append(toldAt, toldAt[len(toldAt)-1]+2+3+3)
	}
	for steps := int64(1); steps < 70; steps++ {
		out := ""
		for i, at := range toldAt {
			if steps >= at {
				out += fmt.Sprintf("%c", 'A'+i)
			}
		}
		got := slowRun{list, 1, "", steps, 100}.check(t)
		if want := (impl.Outcome{End: impl.EndSteps, Out: out, Steps: steps}); got.Outcome != want {
			t.Errorf("%d steps tell %v, not %v", steps, got.Outcome, want)
		}
	}
}
