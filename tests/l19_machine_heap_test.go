package tests

import (
	"strings"
	"testing"

	"loop.example/g00017/impl"
)

// The text that stands where forms have a $: its list has 121 cells.
const ballast = `"sixty chars, whose list has a hundred and twenty-one cells ."`

func withBallast(forms string) []impl.Form { return readForms(strings.ReplaceAll(forms, "$", ballast)) }

// A heldRow has forms with the least heap in which they run, told by what is held when most is, and the collections that are made in it.
type heldRow struct {
	what        string
	forms       string
	need        int64
	collections int64
	end         int64
	out         string // with $ for the ballast's text
	error       string
}

func checkHeld(t *testing.T, rows []heldRow) {
	t.Helper()
	if len(ballast) != 62 {
		t.Fatalf("the ballast has %d chars", len(ballast)-2)
	}
	for _, row := range rows {
		run := slowRun{withBallast(row.forms), 1, "", someSteps, 5000}
		if least := run.checkHeaps(t); least != row.need {
			t.Errorf("%s: the least heap is %d, not %d", row.what, least, row.need)
		}
		run.heap = row.need
		got := run.check(t)
		want := impl.RunResult{Outcome: impl.Outcome{End: row.end, Out: strings.ReplaceAll(row.out, "$", ballast[1:61]), Error: row.error, Steps: got.Outcome.Steps}, Made: got.Made, Updates: got.Updates, Collections: row.collections, Peak: row.need}
		if got != want {
			t.Errorf("%s: answers %s, not %s", row.what, shortRun(got), shortRun(want))
		}
		for heap := int64(100); heap < row.need+20; heap++ {
			run.heap = heap
			run.check(t)
		}
		run.heap = row.need
		run.checkSteps(t)
	}
}

// What the form at work names is held, used again or not; what a form has left is not.
func TestWhatFormsAtWorkHold(t *testing.T) {
	t.Parallel()
	checkHeld(t, []heldRow{
		// At "ok": the ballast, s1, and five more.
		{"slots of the form at work", "0 0 0 2 (let s0 (make 1) (case s0 - _ (let s1 7 \"ok\")))\n1 0 0 0 $", 127, 1, impl.EndDone, "ok", ""},
		// At the ballast: it and two more. At "ok" nothing but a function is held.
		{"slots behind a call", "0 0 0 2 (let s0 (make 1) (make 2) (case s0 - _ (app s1 s1)))\n1 0 0 0 $\n2 0 1 1 \"ok\"", 123, 1, impl.EndDone, "ok", ""},
		{"slots behind a slot that is entered", "0 0 0 2 (let s0 (make 1) (make 2) (case s0 - _ s1))\n1 0 0 0 $\n2 0 0 0 \"ok\"", 123, 1, impl.EndDone, "ok", ""},
		// At "ok": the ballast as an argument, the function, and five more.
		{"parameters", "0 0 0 2 (let s0 (make 1) (make 2) (case s0 - _ (app s1 s0)))\n1 0 0 0 $\n2 0 1 1 \"ok\"", 126, 1, impl.EndDone, "ok", ""},
		{"what was brought along", "0 0 0 3 (let s0 (make 1) (case s0 - _ (let s1 (make 2 s0) 7 (app s1 s2))))\n1 0 0 0 $\n2 1 1 2 \"ok\"", 127, 1, impl.EndDone, "ok", ""},
		// The hole, the ballast, and five.
		{"what something suspended has brought along", "0 0 0 2 (let s0 (make 1) (case s0 - _ (let s1 (make 2 s0) s1)))\n1 0 0 0 $\n2 1 0 1 \"ok\"", 127, 1, impl.EndDone, "ok", ""},
		// At "ok": two holes, which hold nothing of what they had brought along.
		{"a hole", "0 0 0 2 (let s0 (make 1) (case s0 - _ (let s1 (make 2 s0) s1)))\n1 0 0 0 $\n2 1 0 2 (let s1 (make 3) s1)\n3 0 0 0 \"ok\"", 123, 2, impl.EndDone, "ok", ""},
		// The value of a case, and the fields of it.
		{"what comes into slots of a case", "0 0 0 1 (case $ s0 _ \"ok\")", 126, 0, impl.EndDone, "ok", ""},
		{"fields", "0 0 0 2 (case $ - { : s0 2 \"ok\" })", 125, 1, impl.EndDone, "ok", ""},
		{"no slot of a case", "0 0 0 0 (case $ - _ \"ok\")", 121, 1, impl.EndDone, "ok", ""},
		// At 7: a char and the rest of the ballast behind it.
		{"a field out of two", "0 0 0 3 (case $ - { : s0 2 (let s1 7 s2) } _ 7)", 121, 1, impl.EndStuck, "", ""},
		// What was in a slot is held until something else is there.
		{"what gives way", "0 0 0 1 (case $ s0 _ (let s0 7 \"more\"))", 122, 1, impl.EndDone, "more", ""},
		{"what is in a slot that another alternative fills", "0 0 0 2 (case $ s0 { [] s1 0 7 } _ (case 7 s1 { A s0 1 7 } _ (con [])))", 123, 0, impl.EndDone, "", ""},
	})
}

// What waits holds what it names.
func TestWhatHoldsAsItWaits(t *testing.T) {
	t.Parallel()
	checkHeld(t, []heldRow{
		// At "waits": the ballast, a hole, and eleven more; then the list, and one more.
		{"a case", "0 0 0 2 (let s0 (make 1) (make 2) (case s0 - _ (case s1 - _ (con []))))\n1 0 0 0 $\n2 0 0 0 \"waits\"", 133, 2, impl.EndDone, "", ""},
		{"a case, in its first kid", "0 0 0 1 (let s0 (make 1) (case s0 - _ (case \"waits\" - _ (con []))))\n1 0 0 0 $", 132, 2, impl.EndDone, "", ""},
		// Several cases of one form hold its slots once.
		{"cases in each other", "0 0 0 1 (let s0 (make 1) (case s0 - _ (case (case (case \"waits\" - _ 7) - _ 7) - _ (con []))))\n1 0 0 0 $", 132, 2, impl.EndDone, "", ""},
		// At 8: the ballast, a hole, 7, A, and one more. What comes out holds nothing.
		{"a prim", "0 0 0 3 (let s0 (make 1) (make 2) 7 (case s0 - _ (prim primAdd s1 s2)))\n1 0 0 0 $\n2 0 0 1 (let s0 (con A) 8)", 125, 2, impl.EndStuck, "", ""},
		{"a prim, for its second slot", "0 0 0 3 (let s0 (make 1) (make 2) 7 (case s0 - _ (prim primAdd s2 s1)))\n1 0 0 0 $\n2 0 0 1 (let s0 (con A) 8)", 125, 2, impl.EndStuck, "", ""},
		{"primSeq as a prim", "0 0 0 3 (let s0 (make 1) (make 2) (con []) (case s0 - _ (prim primSeq s1 s2)))\n1 0 0 0 $\n2 0 0 1 (let s0 (con A) \"xx\")", 129, 1, impl.EndDone, "", ""},
		{"what is second of primSeq", "0 0 0 3 (let s0 (make 1) (make 2) 7 (case s0 - _ (prim primSeq s2 s1)))\n1 0 0 0 $\n2 0 0 0 \"second\"", 124, 1, impl.EndDone, "second", ""},
		// A prim that has all its values holds neither its slots nor these.
		{"a prim that has all", "0 0 0 2 (let s0 (make 1) 7 (case s0 - _ (prim primShow s1)))\n1 0 0 0 $", 123, 1, impl.EndDone, "7", ""},
		{"a prim of two that has all", "0 0 0 3 (let s0 (make 1) 7 8 (case s0 - _ (prim primMul s1 s2)))\n1 0 0 0 $", 124, 1, impl.EndStuck, "", ""},
		{"a prim that has all, in a case", "0 0 0 2 (let s0 (make 1) 7 (case s0 - _ (case (prim primShow s1) - _ (con []))))\n1 0 0 0 $", 125, 2, impl.EndDone, "", ""},
		// Arguments: at "xxxx" the ballast, the function's hole, and nine more.
		{"arguments", "0 0 0 2 (let s0 (make 1) (make 2) (case s0 - _ (app s1 s0)))\n1 0 0 0 $\n2 0 0 1 (case \"xxxx\" - _ (let s0 (make 3) s0))\n3 0 1 1 (con [])", 131, 2, impl.EndDone, "", ""},
		{"arguments that are left", "0 0 0 3 (let s0 (make 1) (make 2) 7 (case s0 - _ (app s1 s2 s0)))\n1 0 0 0 $\n2 0 1 2 (case \"xxxx\" - _ (let s1 (make 3) s1))\n3 0 1 1 (con [])", 131, 2, impl.EndDone, "", ""},
		// Updates: the hole, though nothing else names it.
		{"an update", "0 0 0 1 (let s0 (make 1) s0)\n1 0 0 0 $", 122, 0, impl.EndDone, "$", ""},
		{"updates", "0 0 0 3 (let s0 (make 1 s1) (make 1 s2) (make 2) s0)\n1 1 0 1 s0\n2 0 0 0 $", 124, 0, impl.EndDone, "$", ""},
		// A function that takes too few arguments, with these and with what it has brought along.
		{"too few arguments", "0 0 0 2 (let s0 (make 1) (make 2) (case s0 - _ (app s1 s0)))\n1 0 0 0 $\n2 0 2 2 s0", 123, 1, impl.EndStuck, "", ""},
		{"a function with too few arguments", "0 0 0 3 (let s0 (make 1) (case s0 - _ (let s1 (make 2 s0) 7 (app s1 s2))))\n1 0 0 0 $\n2 1 2 3 s0", 124, 1, impl.EndStuck, "", ""},
		{"arguments so far", "0 0 0 4 (let s0 (make 1) (make 2) 7 (case s0 - _ (case (app s1 s0) s3 _ (app s3 s2))))\n1 0 0 0 $\n2 0 3 3 s0", 124, 2, impl.EndStuck, "", ""},
	})
}

// The list that is told is held, and no char that was.
func TestWhatTellingHolds(t *testing.T) {
	t.Parallel()
	checkHeld(t, []heldRow{
		// At "xxxx": the cell that is told, its char's hole, the ballast behind it, and nine more.
		{"while a char is worked out", "0 0 0 2 (let s0 (make 1) (make 2) (case s0 - _ (con : s1 s0)))\n1 0 0 0 $\n2 0 0 0 (case \"xxxx\" - _ 'c')", 132, 2, impl.EndDone, "c$", ""},
		// At the ballast: the hole of the rest alone.
		{"while the rest is worked out", "0 0 0 2 (let s0 'a' (make 1) (con : s0 s1))\n1 0 0 0 $", 122, 1, impl.EndDone, "a$", ""},
		{"chars that were told", "0 0 0 3 (let s0 (make 1) (make 2 s0) s1)\n1 0 0 0 $\n2 1 0 1 s0", 123, 0, impl.EndDone, "$", ""},
		// The text of an error is read as the output is. At "xxxx": the ballast by the case that waits, its hole, the hole of the text's rest, and nine more.
		{"what waits as a text is read", "0 0 0 2 (let s0 (make 1) (make 2) (case s0 - _ (case s1 - _ (con []))))\n1 0 0 0 $\n2 0 0 3 (let s0 'e' (make 3) (con : s0 s1) (prim primError s2))\n3 0 0 0 \"xxxx\"", 132, 1, impl.EndError, "", "exxxx"},
		// At "xxxx": the cell that is told, its char's hole, the ballast, the hole of the text's rest, and nine more.
		{"the output, as a text is read", "0 0 0 2 (let s0 (make 1) (make 2) (case s0 - _ (con : s1 s0)))\n1 0 0 0 $\n2 0 0 3 (let s0 'e' (make 3) (con : s0 s1) (prim primError s2))\n3 0 0 0 \"xxxx\"", 133, 1, impl.EndError, "", "exxxx"},
		// The prim of an error holds nothing as its text is read: at "xxxx" the hole of the rest, and nine more.
		{"the prim of an error", "0 0 0 4 (let s0 (make 1) 'e' (make 2) (con : s1 s2) (case s0 - _ (prim primError s3)))\n1 0 0 0 $\n2 0 0 0 \"xxxx\"", 125, 1, impl.EndError, "", "exxxx"},
		// At 'c': the text's cell, its char's hole, the ballast behind it; A, and one more.
		{"a char of a text", "0 0 0 3 (let s0 (make 1) (make 2) (case s0 - _ (let s2 (con : s1 s0) (prim primError s2))))\n1 0 0 0 $\n2 0 0 1 (let s0 (con A) 'c')", 125, 1, impl.EndError, "", "c" + ballast[1:61]},
	})
}

// What names a pointer names what it leads to, once a collection is made.
func TestPointersAreGone(t *testing.T) {
	t.Parallel()
	checkHeld(t, []heldRow{
		// At "ok": three slots that all name the ballast, and five more.
		{"slots", "0 0 0 3 (let s0 (make 1) (make 2 s0) (make 2 s1) (case s2 - _ \"ok\"))\n1 0 0 0 $\n2 1 0 1 s0", 126, 1, impl.EndDone, "ok", ""},
		{"fields", "0 0 0 7 (let s0 (make 1) (make 2 s0) (make 2 s1) (con P s0 s1 s2) (case s2 - _ (case \"waits\" - _ (case s3 - { P s4 3 s6 }))))\n1 0 0 0 $\n2 1 0 1 s0", 133, 1, impl.EndDone, "$", ""},
		{"what was brought along", "0 0 0 4 (let s0 (make 1) (make 2 s0) (make 2 s1) (make 2 s2) (case s2 - _ (case \"waits\" - _ s3)))\n1 0 0 0 $\n2 1 0 1 s0", 133, 1, impl.EndDone, "$", ""},
		{"arguments so far", "0 0 0 4 (let s0 (make 1) (make 2 s0) (make 3) (case (app s2 s1) s3 _ (case s1 - _ (case \"waits\" - _ (app s3 s0)))))\n1 0 0 0 $\n2 1 0 1 s0\n3 0 2 2 s0", 134, 1, impl.EndDone, "$", ""},
		{"the list that is told", "0 0 0 3 (let s0 (make 1) (make 2 s0) (make 3 s1) (case s1 - _ (con : s2 s1)))\n1 0 0 0 $\n2 1 0 1 s0\n3 1 0 3 (case s0 - { : s1 2 (case \"waits\" - _ s1) })", 134, 1, impl.EndDone, "s$", ""},
	})
}

// How many cells are made at once: a heap that is too small for all has none of them.
func TestWhatIsMadeAtOnce(t *testing.T) {
	t.Parallel()
	let := "0 0 0 13 (let s0 (make 1) (case s0 - _ (let s1 1 2 3 4 5 6 7 8 9 10 11 12 \"\")))\n1 0 0 0 $"
	text := "0 0 0 1 (let s0 (make 1) (case s0 - _ \"waits\"))\n1 0 0 0 $"
	show := "0 0 0 2 (let s0 (make 1) 12345 (case s0 - _ (case (prim primShow s1) s1 _ \"\")))\n1 0 0 0 $"
	lets := "0 0 0 4 (let s0 (make 1) (case s0 - _ (let s1 1 (let s2 2 (let s3 3 \"\")))))\n1 0 0 0 $"
	for _, row := range []struct {
		forms string
		heap  int64
		want  impl.RunResult
	}{
		// Twelve cells: there is room behind a collection, or there is not.
		{let, 135, impl.RunResult{Outcome: impl.Outcome{Steps: 6}, Made: 135, Updates: 1, Peak: 135}},
		{let, 134, impl.RunResult{Outcome: impl.Outcome{Steps: 6}, Made: 135, Updates: 1, Collections: 1, Peak: 134}},
		{let, 133, impl.RunResult{Outcome: impl.Outcome{End: impl.EndHeap, Steps: 6}, Made: 134, Updates: 1, Collections: 2, Peak: 133}},
		{let, 132, impl.RunResult{Outcome: impl.Outcome{End: impl.EndHeap, Steps: 5}, Made: 122, Updates: 1, Collections: 1, Peak: 122}},
		{let, 122, impl.RunResult{Outcome: impl.Outcome{End: impl.EndHeap, Steps: 5}, Made: 122, Updates: 1, Collections: 1, Peak: 122}},
		// The ballast beside a hole.
		{let, 121, impl.RunResult{Outcome: impl.Outcome{End: impl.EndHeap, Steps: 4}, Made: 1, Collections: 1, Peak: 1}},
		{let, 100, impl.RunResult{Outcome: impl.Outcome{End: impl.EndHeap, Steps: 4}, Made: 1, Collections: 1, Peak: 1}},
		// Eleven cells of a text.
		{text, 133, impl.RunResult{Outcome: impl.Outcome{Out: "waits", Steps: 5}, Made: 133, Updates: 1, Peak: 133}},
		{text, 132, impl.RunResult{Outcome: impl.Outcome{Out: "waits", Steps: 5}, Made: 133, Updates: 1, Collections: 1, Peak: 132}},
		{text, 131, impl.RunResult{Outcome: impl.Outcome{End: impl.EndHeap, Steps: 5}, Made: 122, Updates: 1, Collections: 1, Peak: 122}},
		// Eleven cells of a number's text, which comes into the number's slot: the ballast, the number, and eleven; then one more.
		{show, 135, impl.RunResult{Outcome: impl.Outcome{Steps: 7}, Made: 135, Updates: 1, Peak: 135}},
		{show, 134, impl.RunResult{Outcome: impl.Outcome{Steps: 7}, Made: 135, Updates: 1, Collections: 1, Peak: 134}},
		{show, 133, impl.RunResult{Outcome: impl.Outcome{Steps: 7}, Made: 135, Updates: 1, Collections: 2, Peak: 133}},
		{show, 132, impl.RunResult{Outcome: impl.Outcome{End: impl.EndHeap, Steps: 6}, Made: 123, Updates: 1, Collections: 1, Peak: 123}},
		// Each let by itself.
		{lets, 126, impl.RunResult{Outcome: impl.Outcome{Steps: 8}, Made: 126, Updates: 1, Peak: 126}},
		{lets, 125, impl.RunResult{Outcome: impl.Outcome{Steps: 8}, Made: 126, Updates: 1, Collections: 1, Peak: 125}},
		{lets, 124, impl.RunResult{Outcome: impl.Outcome{End: impl.EndHeap, Steps: 8}, Made: 125, Updates: 1, Collections: 2, Peak: 124}},
		{lets, 123, impl.RunResult{Outcome: impl.Outcome{End: impl.EndHeap, Steps: 7}, Made: 124, Updates: 1, Collections: 2, Peak: 123}},
		{lets, 122, impl.RunResult{Outcome: impl.Outcome{End: impl.EndHeap, Steps: 6}, Made: 123, Updates: 1, Collections: 2, Peak: 122}},
	} {
		if got := (slowRun{withBallast(row.forms), 1, "", someSteps, row.heap}).check(t); got != row.want {
			t.Errorf("%s\nin a heap of %d answers %s\nnot %s", row.forms, row.heap, shortRun(got), shortRun(row.want))
		}
	}
}
