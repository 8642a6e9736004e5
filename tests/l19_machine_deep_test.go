package tests

import (
	"fmt"
	"runtime/debug"
	"strings"
	"testing"

	"loop.example/g00017/impl"
)

// A deepRun calls f, in slot 0, of the rest, in slot 3, of its list, in slot 1, for each char of the input; what is there at each level waits.
type deepRun struct {
	what  string
	again string // the code behind a char
	last  string // the code at the end
	more  string // forms from the second on
	each  int    // how many wait at each level
	end   int64
}

func deepRuns() []deepRun {
	const further = "\n2 2 0 2 (app s0 s1)"
	return []deepRun{
		{"a case", "(case (app s0 s3) - _ \"a\")", "\"b\"", "", 1, impl.EndDone},
		{"a case with a slot", "(case (app s0 s3) s4 { : s2 2 s4 })", "\"b\"", "", 1, impl.EndDone},
		{"an update", "(let s4 (make 2 s0 s3) s4)", "\"b\"", further, 1, impl.EndDone},
		{"arguments that are left", "(app s0 s3 s2)", "(let s4 (make 2 s4) s4)", "\n2 1 1 2 s0", 1, impl.EndStuck},
		{"arguments and an update", "(let s4 (make 2 s0 s3) (app s4 s2))", "(let s4 (make 3 s4) s4)", further + "\n3 1 1 2 s0", 2, impl.EndStuck},
		{"a prim and an update", "(let s4 (make 2 s0 s3) (case (prim primOrd s4) s5 _ (prim primChr s5)))", "'b'", further, 3, impl.EndStuck},
		{"a prim for its first slot", "(let s4 (make 2 s0 s3) 7 (prim primAdd s4 s5))", "7", further, 2, impl.EndStuck},
		{"a prim for its second slot", "(let s4 (make 2 s0 s3) 7 (prim primAdd s5 s4))", "7", further, 2, impl.EndStuck},
		{"primSeq as a prim", "(let s4 (make 2 s0 s3) (con []) (prim primSeq s4 s5))", "\"b\"", further, 2, impl.EndDone},
		{"the text of an error", "(let s4 (make 2 s0 s3) (prim primError s4))", "\"b\"", further, 2, impl.EndError},
		// What is behind a char of a text is asked for by the text alone, for which nothing waits; its update does.
		{"texts of errors in each other", "(let s4 (make 2 s0 s3) (con : s2 s4) (prim primError s5))", "\"b\"", further, 1, impl.EndError},
	}
}

// forms has the forms, in mode 2, with so many cases around all.
func (d deepRun) forms(around int) []impl.Form {
	first := "(app s0 s1)"
	for range around {
		first = "(case " + first + " s2 _ s2)"
	}
	last := 2 + strings.Count(d.more, "\n")
	return readForms(fmt.Sprintf("0 0 0 2 (let s0 (make %d s1) (make 1 s1) s0)\n1 1 1 6 (case s1 - { [] s2 0 %s } { : s2 2 %s })%s\n%d 1 1 3 %s\n", last, d.last, d.again, d.more, last, first))
}

// Exactly as much waits as may, and then one more: at the end of the list a case waits for it.
func TestMostThatWaitsInTheMachine(t *testing.T) {
	t.Parallel()
	for _, d := range deepRuns() {
		exact := 0
		for around := range d.each {
			levels := (impl.MaxPending - around - 1) / d.each
			for more := range 3 {
				run := slowRun{d.forms(around), 2, strings.Repeat("c", levels-1+more), impl.MaxSteps, impl.MaxHeap}
				waits := (levels-1+more)*d.each + around + 1
				got := run.check(t)
				_, waited := run.slowly()
				if waits == impl.MaxPending {
					exact++
				}
				if waits <= impl.MaxPending && (waited != waits || got.Outcome.End != d.end) || waits > impl.MaxPending && (got.Outcome.End != impl.EndDeep || got.Outcome.Out != "" || got.Outcome.Error != "") {
					t.Errorf("%s, %d levels, %d around: %d wait, end %d", d.what, levels-1+more, around, waited, got.Outcome.End)
				}
			}
		}
		if exact == 0 {
			t.Errorf("%s: never as much waits as may", d.what)
		}
	}
}

// casesAround has the forms of so many cases, each in the first kid of the next one, of one form.
func casesAround(count int, inner impl.Code) []impl.Form {
	code := inner
	for range count {
		code = impl.Code{Kind: impl.KCase, A: 0, Kids: []impl.Code{code, {Kind: impl.KSlot}}}
	}
	return []impl.Form{{Slots: 2, Body: code}, {Params: 1, Slots: 1, Body: impl.Code{Kind: impl.KSlot}}}
}

// Cases of one form, and the input's list that waits for what comes out.
func TestMostCasesOfOneForm(t *testing.T) {
	t.Parallel()
	list, function := impl.Code{Kind: impl.KText, Name: "told"}, readCode("(let s0 (make 1) s0)")
	const most = impl.MaxPending
	for _, row := range []struct {
		mode  int64
		count int
		inner impl.Code
		want  impl.RunResult
	}{
		{1, most, list, impl.RunResult{Outcome: impl.Outcome{Out: "told", Steps: 2*most + 1}, Made: 9, Peak: 9}},
		{1, most + 1, list, impl.RunResult{Outcome: impl.Outcome{End: impl.EndDeep, Steps: most + 1}}},
		{1, most + 2, list, impl.RunResult{Outcome: impl.Outcome{End: impl.EndDeep, Steps: most + 1}}},
		{2, most - 1, function, impl.RunResult{Outcome: impl.Outcome{Out: "in", Steps: 2*most + 1}, Made: 6, Peak: 6}},
		{2, most, function, impl.RunResult{Outcome: impl.Outcome{End: impl.EndDeep, Steps: most}, Made: 5, Peak: 5}},
		// A prim, arguments and an update wait too, one more than the cases.
		{1, most - 1, readCode("(let s0 7 (prim primShow s0))"), impl.RunResult{Outcome: impl.Outcome{Out: "7", Steps: 2 * most}, Made: 4, Peak: 4}},
		{1, most, readCode("(let s0 7 (prim primShow s0))"), impl.RunResult{Outcome: impl.Outcome{End: impl.EndDeep, Steps: most + 2}, Made: 1, Peak: 1}},
		{1, most - 1, readCode("(let s0 (make 1) (con []) (app s0 s1))"), impl.RunResult{Outcome: impl.Outcome{Steps: 2*most + 1}, Made: 2, Peak: 2}},
		{1, most, readCode("(let s0 (make 1) (con []) (app s0 s1))"), impl.RunResult{Outcome: impl.Outcome{End: impl.EndDeep, Steps: most + 2}, Made: 2, Peak: 2}},
		{1, most, readCode("(let s0 (make 2) s0)"), impl.RunResult{Outcome: impl.Outcome{End: impl.EndDeep, Steps: most + 2}, Made: 1, Peak: 1}},
		{1, most - 1, readCode("(let s0 (make 2) s0)"), impl.RunResult{Outcome: impl.Outcome{Out: "u", Steps: 2*most + 1}, Made: 4, Updates: 1, Peak: 4}},
		// An empty slot is told ahead of that.
		{1, most, readCode("(prim primShow s1)"), impl.RunResult{Outcome: impl.Outcome{End: impl.EndStuck, Steps: most + 1}}},
		{1, most, readCode("(let s0 7 (app s0 s1))"), impl.RunResult{Outcome: impl.Outcome{End: impl.EndStuck, Steps: most + 2}, Made: 1, Peak: 1}},
		// What is a hole, or no function, is told behind it.
		{1, most, readCode("(let s0 7 (app s0 s0))"), impl.RunResult{Outcome: impl.Outcome{End: impl.EndDeep, Steps: most + 2}, Made: 1, Peak: 1}},
	} {
		forms := append(casesAround(row.count, row.inner), readForms("0 0 0 0 \"u\"")...)
		if got := (slowRun{forms, row.mode, "in", impl.MaxSteps, 100}).check(t); got != row.want {
			t.Errorf("mode %d, %d cases around %s: answers %s, not %s", row.mode, row.count, codeWritten(row.inner), shortRun(got), shortRun(row.want))
		}
	}
}

// However much waits, and however deep codes are, calls do not go into each other.
func TestDeepMachineRunsInASmallStack(t *testing.T) {
	defer debug.SetMaxStack(debug.SetMaxStack(smallStack))
	for _, d := range deepRuns() {
		if got := impl.RunForms(d.forms(0), 2, strings.Repeat("c", (impl.MaxPending-1)/d.each), impl.MaxSteps, impl.MaxHeap); got.Outcome.End != d.end {
			t.Errorf("%s ends %d", d.what, got.Outcome.End)
		}
	}
	text := impl.Code{Kind: impl.KText, Name: "deep"}
	cases := casesAround(impl.MaxPending, text)
	if got := impl.RunForms(cases, 1, "", impl.MaxSteps, 100); got.Outcome.Out != "deep" {
		t.Errorf("cases answer %s", shortRun(got))
	}
	for range 2*impl.MaxCore - 1 {
		text = impl.Code{Kind: impl.KLet, Kids: []impl.Code{{Kind: impl.KInt}, text}}
	}
	if got := impl.RunForms([]impl.Form{{Slots: 1, Body: text}}, 1, "", impl.MaxSteps, 100); got.Outcome.Out != "deep" {
		t.Errorf("lets answer %s", shortRun(got))
	}
}

// Calls at the end of a body, of an alternative or of a let wait for nothing, and what is left is not held.
func TestMachineLoopsThatWaitForNothing(t *testing.T) {
	t.Parallel()
	for _, text := range []string{
		`(let f = (\x -> (f x)) in (f 1))`,
		`(let f = (\x -> (case x of { _ -> (f x) })) in (f 1))`,
		`(let f = (\x -> (primSeq x (f x))) in (f 1))`,
		`(let f = (\x -> (g x)); g = (\x -> (f x)) in (f 1))`,
		`(let f = (\x -> (\y -> (f y x))) in (f 1 2))`,
		`(let f = (\x y -> ((f y) x)) in (f 1 2))`,
		`(let f = (\g x -> (g g x)) in (f f 1))`,
		`(let f = (\n -> (case n of m { _ -> (f (primAdd m 1)) })) in (f 1))`,
		`(let f = (\n -> (primSeq n (f (primAdd n 1)))) in (f 1))`,
		`(let f = (\p -> (case p of { P a b -> (f (P b a)) })) in (f (P 1 2)))`,
		`(let f = (\l -> (case l of { : h r -> (f r) })) in (let x = (: 1 x) in (f x)))`,
	} {
		run := slowRun{impl.FormsOf(readCore(text)), 1, "", 500000, 100}
		got := run.answer()
		if want := (impl.Outcome{End: impl.EndSteps, Steps: run.steps}); got.Outcome != want || got.Peak > 100 {
			t.Errorf("%s answers %s", text, shortRun(got))
		}
		run.steps = 2000
		run.check(t)
		if _, waited := run.slowly(); waited > 5 {
			t.Errorf("%s lets %d wait", text, waited)
		}
	}
}
