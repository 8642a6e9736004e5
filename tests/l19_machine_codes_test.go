package tests

import (
	"testing"

	"loop.example/g00017/impl"
)

// A slot names a cell of each kind.
func TestRunsOfSlots(t *testing.T) {
	t.Parallel()
	checkRan(t, []ran{
		// Values go to what waits: here they are told, or no list.
		{"0 0 0 1 (let s0 7 s0)", impl.EndStuck, "", "", 2, 1, 0},
		{"0 0 0 1 (let s0 'a' s0)", impl.EndStuck, "", "", 2, 1, 0},
		{"0 0 0 1 (let s0 (con []) s0)", impl.EndDone, "", "", 2, 1, 0},
		{"0 0 0 3 (let s0 (con []) (let s1 'a' (let s2 (con : s1 s0) s2)))", impl.EndDone, "a", "", 4, 3, 0},
		{"0 0 0 1 (let s0 (make 1) s0)\n1 0 1 1 s0", impl.EndStuck, "", "", 2, 1, 0},
		{"0 0 0 2 (let s0 (con []) (let s1 (make 1 s0) s1))\n1 1 1 2 s0", impl.EndStuck, "", "", 3, 2, 0},
		// Something suspended is worked out, and updated.
		{"0 0 0 1 (let s0 (make 1) s0)\n1 0 0 0 \"ab\"", impl.EndDone, "ab", "", 3, 6, 1},
		{"0 0 0 2 (let s0 'x' (let s1 (make 1 s0) s1))\n1 1 0 2 (let s1 (con []) (con : s0 s1))", impl.EndDone, "x", "", 5, 4, 1},
		// A hole.
		{"0 0 0 1 (let s0 (make 1 s0) s0)\n1 1 0 1 s0", impl.EndLoop, "", "", 3, 1, 0},
		{"0 0 0 2 (let s0 (make 1 s1) (make 1 s0) s1)\n1 1 0 1 s0", impl.EndLoop, "", "", 4, 2, 0},
		{"0 0 0 1 (let s0 (make 1 s0) s0)\n1 1 0 1 (case s0 - _ \"a\")", impl.EndLoop, "", "", 4, 1, 0},
		// A pointer leads on: it was worked out once.
		{"0 0 0 1 (let s0 (make 1) (case s0 - _ s0))\n1 0 0 0 \"a\"", impl.EndDone, "a", "", 5, 4, 1},
		{"0 0 0 1 (let s0 (make 1) (case s0 - _ (case s0 - _ s0)))\n1 0 0 0 \"a\"", impl.EndDone, "a", "", 7, 4, 1},
		// Several that lead to one value: each is updated.
		{"0 0 0 2 (let s0 (make 1 s1) (make 2) s0)\n1 1 0 1 s0\n2 0 0 0 \"a\"", impl.EndDone, "a", "", 4, 5, 2},
		{"0 0 0 2 (let s0 (make 1 s1) (make 2) (case s0 - _ (case s1 - _ s0)))\n1 1 0 1 s0\n2 0 0 0 \"a\"", impl.EndDone, "a", "", 8, 5, 2},
		// A function that was suspended is one behind a pointer.
		{"0 0 0 2 (let s0 (make 1) (con []) (case s0 - _ (app s0 s1)))\n1 0 0 1 (let s0 (make 2) s0)\n2 0 1 1 s0", impl.EndDone, "", "", 7, 3, 1},
		// The first form may be made too.
		{"0 0 0 1 (let s0 (make 0) \"a\")", impl.EndDone, "a", "", 2, 4, 0},
	})
	// It is then worked out anew, with a cell of its own each time.
	again := slowRun{readForms("0 0 0 1 (let s0 (make 0) s0)"), 1, "", 100, 1000}
	if got, want := again.check(t), (impl.RunResult{Outcome: impl.Outcome{End: impl.EndSteps, Steps: 100}, Made: 50, Peak: 50}); got != want {
		t.Errorf("answers %s", shortRun(got))
	}
}

func TestRunsOfValues(t *testing.T) {
	t.Parallel()
	checkRan(t, []ran{
		{"0 0 0 0 7", impl.EndStuck, "", "", 1, 1, 0},
		{"0 0 0 0 -12345678901234567890", impl.EndStuck, "", "", 1, 1, 0},
		{"0 0 0 0 'a'", impl.EndStuck, "", "", 1, 1, 0},
		{"0 0 0 0 (con A)", impl.EndStuck, "", "", 1, 1, 0},
		{"0 0 0 0 (con [])", impl.EndDone, "", "", 1, 1, 0},
		{"0 0 0 2 (let s0 'a' (let s1 (con []) (con : s0 s1)))", impl.EndDone, "a", "", 3, 3, 0},
		// A text: two cells for each char, and one.
		{"0 0 0 0 \"\"", impl.EndDone, "", "", 1, 1, 0},
		{"0 0 0 0 \"a\"", impl.EndDone, "a", "", 1, 3, 0},
		{"0 0 0 0 \"many chars\"", impl.EndDone, "many chars", "", 1, 21, 0},
		{`0 0 0 0 "\n\"\\"`, impl.EndDone, "\n\"\\", "", 1, 7, 0},
		{"0 0 0 2 (case \"ab\" - { : s0 2 (con : s0 s1) })", impl.EndDone, "ab", "", 3, 6, 0},
		{"0 0 0 2 (case \"ab\" - { : s0 2 s1 })", impl.EndDone, "b", "", 3, 5, 0},
		{"0 0 0 0 (case \"\" - { [] s0 0 \"end\" })", impl.EndDone, "end", "", 3, 8, 0},
		{"0 0 0 0 (case \"a\" - { [] s0 0 \"end\" } _ \"more\")", impl.EndDone, "more", "", 3, 12, 0},
		// Each time a code is worked out its cells are new.
		{"0 0 0 3 (let s0 (make 1) (con []) (case (app s0 s1) - _ (app s0 s1)))\n1 0 1 1 \"abc\"", impl.EndDone, "abc", "", 6, 16, 0},
	})
}

func TestRunsOfApplications(t *testing.T) {
	t.Parallel()
	checkRan(t, []ran{
		// Just enough arguments.
		{"0 0 0 2 (let s0 (make 1) (con []) (app s0 s1))\n1 0 1 1 s0", impl.EndDone, "", "", 3, 2, 0},
		{"0 0 0 3 (let s0 (make 1) 'a' (con []) (app s0 s1 s2))\n1 0 2 2 (con : s0 s1)", impl.EndDone, "a", "", 3, 4, 0},
		{"0 0 0 3 (let s0 (make 1 s1) 'a' (con []) (app s0 s2))\n1 1 1 2 (con : s0 s1)", impl.EndDone, "a", "", 3, 4, 0},
		// Too few: a new function cell, which is no list.
		{"0 0 0 2 (let s0 (make 1) (con []) (app s0 s1))\n1 0 2 2 s0", impl.EndStuck, "", "", 2, 3, 0},
		{"0 0 0 2 (let s0 (make 1) (con []) (case (app s0 s1) s1 _ \"a\"))\n1 0 2 2 s0", impl.EndDone, "a", "", 4, 6, 0},
		// It takes the rest later, all at once or one by one, and may be given to another one again.
		{"0 0 0 4 (let s0 (make 1) 'a' (con []) (case (app s0 s1) s3 _ (app s3 s2)))\n1 0 2 2 (con : s0 s1)", impl.EndDone, "a", "", 5, 5, 0},
		{"0 0 0 5 (let s0 (make 1) 'a' (con []) (case (app s0 s1) s3 _ (case (app s3 s1) s4 _ (app s4 s2))))\n1 0 3 4 (let s3 (con : s1 s2) (con : s0 s3))", impl.EndDone, "aa", "", 8, 7, 0},
		{"0 0 0 5 (let s0 (make 1) 'a' (con []) (case (app s0 s1) s3 _ (case (app s3 s2) s4 _ (app s3 s4))))\n1 0 2 2 (con : s0 s1)", impl.EndDone, "aa", "", 8, 6, 0},
		{"0 0 0 3 (let s0 (make 1) (con []) (make 2 s0 s1) (app s2 s1))\n1 0 2 2 s1\n2 2 0 2 (app s0 s1)", impl.EndDone, "", "", 4, 4, 1},
		// What was brought along stands ahead of arguments so far.
		{"0 0 0 5 (let s0 (make 1 s1) 'a' 'b' (con []) (case (app s0 s2) s4 _ (app s4 s3)))\n1 1 2 4 (let s3 (con : s1 s2) (con : s0 s3))", impl.EndDone, "ab", "", 6, 7, 0},
		// Too many: those left over wait on.
		{"0 0 0 2 (let s0 (make 1) (con []) (app s0 s1 s1))\n1 0 1 2 (let s1 (make 2 s0) s1)\n2 1 1 2 s1", impl.EndDone, "", "", 5, 3, 0},
		{"0 0 0 3 (let s0 (make 1) (make 2) (con []) (app s0 s1 s1 s2))\n1 0 1 1 s0\n2 0 1 1 s0", impl.EndDone, "", "", 5, 3, 0},
		{"0 0 0 2 (let s0 (make 1) (con []) (app s0 s1 s1 s1))\n1 0 1 2 (let s1 (make 2) s1)\n2 0 3 3 s1", impl.EndStuck, "", "", 4, 4, 0},
		{"0 0 0 2 (let s0 (make 1) (con []) (app s0 s1 s1))\n1 0 1 1 s0", impl.EndStuck, "", "", 3, 2, 0},
		// What is no function.
		{"0 0 0 1 (let s0 7 (app s0 s0))", impl.EndStuck, "", "", 2, 1, 0},
		{"0 0 0 1 (let s0 'a' (app s0 s0))", impl.EndStuck, "", "", 2, 1, 0},
		{"0 0 0 1 (let s0 (con []) (app s0 s0))", impl.EndStuck, "", "", 2, 1, 0},
		{"0 0 0 1 (let s0 (make 1) (app s0 s0))\n1 0 0 0 \"a\"", impl.EndStuck, "", "", 3, 4, 1},
		// Something suspended that is a function, a hole.
		{"0 0 0 2 (let s0 (make 1) (con []) (app s0 s1))\n1 0 0 1 (let s0 (make 2) s0)\n2 0 1 1 s0", impl.EndDone, "", "", 5, 3, 1},
		{"0 0 0 1 (let s0 (make 1 s0) (app s0 s0))\n1 1 0 1 (app s0 s0)", impl.EndLoop, "", "", 3, 1, 0},
		// Arguments are not asked for.
		{"0 0 0 2 (let s0 (make 1) (make 2 s1) (app s0 s1))\n1 0 1 1 \"a\"\n2 1 0 1 s0", impl.EndDone, "a", "", 3, 5, 0},
	})
}

func TestRunsOfLets(t *testing.T) {
	t.Parallel()
	checkRan(t, []ran{
		// Several that name one another, and themselves.
		{"0 0 0 5 (let s0 (con : s1 s2) 'a' (con : s3 s4) 'b' (con []) s0)", impl.EndDone, "ab", "", 2, 5, 0},
		{"0 0 0 2 (let s0 (make 1 s1) (con []) s0)\n1 1 0 1 s0", impl.EndDone, "", "", 3, 2, 1},
		{"0 0 0 3 (let s0 (make 1 s0 s1) 'a' (con : s1 s0) (case s2 - { : s1 2 s2 }))\n1 2 0 3 (let s2 (con []) (con : s1 s2))", impl.EndDone, "a", "", 6, 5, 1},
		{"0 0 0 1 (let s0 (con C s0 s0) \"a\")", impl.EndDone, "a", "", 2, 4, 0},
		// One in the other.
		{"0 0 0 3 (let s2 (con []) (let s1 'a' (let s0 (con : s1 s2) s0)))", impl.EndDone, "a", "", 4, 3, 0},
		// What is in a slot already gives way to what is new, also for what is made there.
		{"0 0 0 2 (let s0 (con A) (let s0 (con []) s0))", impl.EndDone, "", "", 3, 2, 0},
		{"0 0 0 2 (let s0 'a' (con []) (let s0 (con : s0 s1) (case s0 - { : s0 2 (case s0 - { : s0 2 s1 }) })))", impl.EndDone, "", "", 7, 3, 0},
		{"0 0 0 3 (let s0 'a' 'b' (let s0 (con []) 'c' (con : s1 s0) s2))", impl.EndDone, "c", "", 3, 5, 0},
		// Numbers and chars, great ones too.
		{"0 0 0 1 (let s0 123456789012345678901234567890 (prim primShow s0))", impl.EndDone, "123456789012345678901234567890", "", 2, 62, 0},
	})
}

func TestRunsOfCases(t *testing.T) {
	t.Parallel()
	checkRan(t, []ran{
		// Without a slot and with one, by an alternative and by the default.
		{"0 0 0 0 (case (con A) - { A s0 0 \"a\" } { B s0 0 \"b\" })", impl.EndDone, "a", "", 3, 4, 0},
		{"0 0 0 0 (case (con B) - { A s0 0 \"a\" } { B s0 0 \"b\" })", impl.EndDone, "b", "", 3, 4, 0},
		{"0 0 0 0 (case (con C) - { A s0 0 \"a\" } { B s0 0 \"b\" } _ \"c\")", impl.EndDone, "c", "", 3, 4, 0},
		{"0 0 0 1 (case (con []) s0 { [] s1 0 s0 })", impl.EndDone, "", "", 3, 1, 0},
		{"0 0 0 1 (case (con []) s0 _ s0)", impl.EndDone, "", "", 3, 1, 0},
		{"0 0 0 1 (case (con []) s0 { A s1 0 \"a\" } _ s0)", impl.EndDone, "", "", 3, 1, 0},
		// Fields.
		{"0 0 0 4 (let s0 'a' (con []) (case (con P s0 s1) - { P s2 2 (con : s2 s3) }))", impl.EndDone, "a", "", 4, 4, 0},
		{"0 0 0 4 (let s0 'a' (con []) (case (con P s1 s0) - { P s2 2 (con : s3 s2) }))", impl.EndDone, "a", "", 4, 4, 0},
		// Another number of fields.
		{"0 0 0 2 (let s0 'a' (case (con P s0) - { P s1 0 \"a\" } _ \"b\"))", impl.EndDone, "b", "", 4, 5, 0},
		{"0 0 0 3 (let s0 'a' (case (con P s0) - { P s1 2 \"a\" } _ \"b\"))", impl.EndDone, "b", "", 4, 5, 0},
		{"0 0 0 3 (let s0 'a' (case (con P s0) - { P s1 2 \"a\" }))", impl.EndStuck, "", "", 3, 2, 0},
		{"0 0 0 1 (case (con P) - { P s0 1 \"a\" })", impl.EndStuck, "", "", 2, 1, 0},
		// Neither alternative nor default.
		{"0 0 0 0 (case (con C) - { A s0 0 \"a\" } { B s0 0 \"b\" })", impl.EndStuck, "", "", 2, 1, 0},
		{"0 0 0 1 (case (con C) s0 { A s0 0 \"a\" })", impl.EndStuck, "", "", 2, 1, 0},
		// Numbers, chars and functions have a default alone.
		{"0 0 0 1 (case 7 s0 { A s0 0 \"a\" } _ (prim primShow s0))", impl.EndDone, "7", "", 3, 4, 0},
		{"0 0 0 1 (case 'A' s0 { A s0 0 \"a\" } _ \"b\")", impl.EndDone, "b", "", 3, 4, 0},
		{"0 0 0 2 (case (let s0 (make 1) s0) s1 { A s0 0 \"a\" } _ (app s1 s0))\n1 0 1 1 \"b\"", impl.EndDone, "b", "", 5, 4, 0},
		{"0 0 0 0 (case 7 - { A s0 0 \"a\" })", impl.EndStuck, "", "", 2, 1, 0},
		{"0 0 0 0 (case 'A' - { A s0 0 \"a\" })", impl.EndStuck, "", "", 2, 1, 0},
		{"0 0 0 1 (case (let s0 (make 1) s0) - { A s0 0 \"a\" })\n1 0 1 1 \"b\"", impl.EndStuck, "", "", 3, 1, 0},
		// The first kid is any code, a case among them.
		{"0 0 0 2 (case (case (con A) s0 { A s1 0 (con B) }) s1 { B s0 0 \"b\" })", impl.EndDone, "b", "", 5, 5, 0},
		{"0 0 0 1 (case (let s0 (make 1) s0) s0 { : s0 0 \"a\" } _ s0)\n1 0 0 0 \"text\"", impl.EndDone, "text", "", 5, 10, 1},
		{"0 0 0 1 (let s0 (make 1 s0) (case s0 - _ \"a\"))\n1 1 0 1 s0", impl.EndLoop, "", "", 4, 1, 0},
	})
}

// What no term has, without a fault: the slots of a form are its own as long as it is at work, wherever they are filled.
func TestRunsOfFormsThatNoTermHas(t *testing.T) {
	t.Parallel()
	checkRan(t, []ran{
		// A slot that the first kid has filled is full behind it; one of another alternative is not.
		{"0 0 0 1 (case (let s0 (con []) 7) - _ s0)", impl.EndDone, "", "", 4, 2, 0},
		{"0 0 0 2 (case (case (con []) s0 _ 7) s1 _ s0)", impl.EndDone, "", "", 5, 2, 0},
		{"0 0 0 3 (case (case \"ab\" - { : s0 2 7 }) - _ s1)", impl.EndDone, "b", "", 5, 6, 0},
		{"0 0 0 1 (case (case (con A) - { A s0 0 7 } { B s0 1 (let s0 (con []) 7) }) - _ s0)", impl.EndStuck, "", "", 5, 2, 0},
		// Fields come behind the value: where both come into one slot the field stays.
		{"0 0 0 2 (let s0 (con []) (case (con P s0) s1 { P s1 1 s1 }))", impl.EndDone, "", "", 4, 2, 0},
		{"0 0 0 2 (let s0 (con []) (case (con P s0 s0) s1 { P s0 2 s1 }))", impl.EndDone, "", "", 4, 2, 0},
		// Of two alternatives of one constructor the first one counts that has as many fields.
		{"0 0 0 1 (case (con A) - { A s0 0 \"a\" } { A s0 0 \"b\" })", impl.EndDone, "a", "", 3, 4, 0},
		{"0 0 0 1 (case (con A) - { A s0 1 \"a\" } { A s0 0 \"b\" } { A s0 0 \"c\" })", impl.EndDone, "b", "", 3, 4, 0},
		{"0 0 0 2 (let s0 'x' (case (con A s0) - { A s0 0 \"a\" } { A s0 2 \"b\" } { A s1 1 (let s0 (con []) (con : s1 s0)) }))", impl.EndDone, "x", "", 5, 4, 0},
		// A prim and a call name one slot several times; a constructor too.
		{"0 0 0 1 (let s0 21 (case (prim primAdd s0 s0) s0 _ (prim primShow s0)))", impl.EndDone, "42", "", 4, 7, 0},
		{"0 0 0 2 (let s0 (make 1) (con []) (app s0 s0 s1))\n1 0 2 2 (app s0 s0 s1)", impl.EndSteps, "", "", someSteps, 2, 0},
		{"0 0 0 3 (let s0 'a' (con []) (let s1 (con P s0 s0 s0) (case s1 - { P s0 3 s1 })))", impl.EndStuck, "", "", 5, 3, 0},
		// primSeq as a prim: the second is entered in its place.
		{"0 0 0 2 (let s0 (make 1) (make 2) (prim primSeq s0 s1))\n1 0 0 0 7\n2 0 0 0 \"a\"", impl.EndDone, "a", "", 4, 6, 2},
		{"0 0 0 2 (let s0 (make 1 s0) (make 2) (prim primSeq s0 s1))\n1 1 0 1 s0\n2 0 0 0 \"a\"", impl.EndLoop, "", "", 3, 2, 0},
		{"0 0 0 2 (let s0 (con []) (make 1 s1) (prim primSeq s0 s1))\n1 1 0 1 s0", impl.EndLoop, "", "", 3, 2, 0},
		{"0 0 0 1 (let s0 (con []) (prim primSeq s0 s0))", impl.EndDone, "", "", 2, 1, 0},
		// More slots than are named, forms that nothing makes.
		{"0 0 0 20000 \"a\"\n1 7000 7000 20000 s19999", impl.EndDone, "a", "", 1, 3, 0},
	})
	nameless := []impl.Form{{Slots: 1, Body: impl.Code{Kind: impl.KCase, A: -1, Kids: []impl.Code{{Kind: impl.KCon}}, Alts: []impl.CodeAlt{{Con: "A", Body: impl.Code{Kind: impl.KText, Name: "a"}}, {Body: impl.Code{Kind: impl.KText, Name: "none"}}}}}}
	if got, want := (slowRun{nameless, 1, "", 9, 100}).check(t), (impl.RunResult{Outcome: impl.Outcome{Out: "none", Steps: 3}, Made: 10, Peak: 10}); got != want {
		t.Errorf("a constructor without a name answers %s", shortRun(got))
	}
}

// A slot that has nothing, named by a code at work or by what a let makes, ends all in the step that is taken.
func TestRunsOfEmptySlots(t *testing.T) {
	t.Parallel()
	checkRan(t, []ran{
		{"0 0 0 1 s0", impl.EndStuck, "", "", 1, 0, 0},
		{"0 0 0 2 (let s0 7 s1)", impl.EndStuck, "", "", 2, 1, 0},
		{"0 0 0 2 (con : s0 s1)", impl.EndStuck, "", "", 1, 0, 0},
		{"0 0 0 2 (let s0 7 (con : s0 s1))", impl.EndStuck, "", "", 2, 1, 0},
		{"0 0 0 2 (let s1 7 (con : s0 s1))", impl.EndStuck, "", "", 2, 1, 0},
		{"0 0 0 2 (let s0 7 (app s0 s1))", impl.EndStuck, "", "", 2, 1, 0},
		{"0 0 0 2 (let s0 7 (app s1 s0))", impl.EndStuck, "", "", 2, 1, 0},
		{"0 0 0 3 (let s0 (make 1) 7 (app s0 s1 s2))\n1 0 1 1 s0", impl.EndStuck, "", "", 2, 2, 0},
		// A prim ahead of working out any of its slots.
		{"0 0 0 2 (let s0 (make 1 s0) (prim primAdd s0 s1))\n1 1 0 1 s0", impl.EndStuck, "", "", 2, 1, 0},
		{"0 0 0 2 (let s1 7 (prim primAdd s0 s1))", impl.EndStuck, "", "", 2, 1, 0},
		{"0 0 0 2 (let s0 (make 1 s0) (prim primSeq s0 s1))\n1 1 0 1 s0", impl.EndStuck, "", "", 2, 1, 0},
		{"0 0 0 1 (prim primError s0)", impl.EndStuck, "", "", 1, 0, 0},
		{"0 0 0 1 (prim primShow s0)", impl.EndStuck, "", "", 1, 0, 0},
		// What a let makes; its own slots are none that have nothing.
		{"0 0 0 2 (let s0 (con P s1) \"a\")", impl.EndStuck, "", "", 1, 0, 0},
		{"0 0 0 3 (let s0 (con P s1) (con P s2) \"a\")", impl.EndStuck, "", "", 1, 0, 0},
		{"0 0 0 3 (let s1 (con P s1) (con P s0) \"a\")", impl.EndStuck, "", "", 1, 0, 0},
		{"0 0 0 2 (let s0 (make 1 s1) \"a\")\n1 1 0 1 s0", impl.EndStuck, "", "", 1, 0, 0},
		{"0 0 0 2 (let s0 (make 1 s1) \"a\")\n1 1 1 2 s0", impl.EndStuck, "", "", 1, 0, 0},
		{"0 0 0 2 (let s0 7 (make 1 s0 s1) \"a\")\n1 2 1 3 s0", impl.EndDone, "a", "", 2, 5, 0},
		// The last kid of a let, the first and second of a case, take steps of their own.
		{"0 0 0 2 (let s0 7 (let s0 8 s1))", impl.EndStuck, "", "", 3, 2, 0},
		{"0 0 0 1 (case s0 s0 _ \"a\")", impl.EndStuck, "", "", 2, 0, 0},
		{"0 0 0 1 (case 7 - _ s0)", impl.EndStuck, "", "", 3, 1, 0},
		{"0 0 0 3 (case \"ab\" - { : s0 2 s2 })", impl.EndStuck, "", "", 3, 5, 0},
		// Slots are new each time that a form is worked out.
		{"0 0 0 3 (let s0 (make 1) (con A) (app s0 s0 s1))\n1 0 2 4 (case s1 - { A s3 0 (let s2 (con B) (app s0 s0 s2)) } _ s2)", impl.EndStuck, "", "", 9, 3, 0},
		{"0 0 0 3 (let s0 (make 1 s1) (con A) (make 2 s0) s2)\n1 1 1 3 (case s1 - { A s2 0 (let s2 (con []) s2) } _ s2)\n2 1 0 2 (let s1 (con B) (app s0 s1))", impl.EndStuck, "", "", 7, 4, 0},
		// What is suspended ends all where it is worked out.
		{"0 0 0 1 (let s0 (make 1) s0)\n1 0 0 1 s0", impl.EndStuck, "", "", 3, 1, 0},
	})
	// Ahead of a heap that is too small.
	wide := impl.Code{Kind: impl.KLet, Kids: make([]impl.Code, 151)}
	for i := range wide.Kids {
		wide.Kids[i] = impl.Code{Kind: impl.KInt}
	}
	wide.Kids[149] = impl.Code{Kind: impl.KCon, Name: "P", Refs: []int64{150}}
	run := slowRun{[]impl.Form{{Slots: 151, Body: wide}}, 1, "", 9, 100}
	if got, want := run.check(t), (impl.RunResult{Outcome: impl.Outcome{End: impl.EndStuck, Steps: 1}}); got != want {
		t.Errorf("a wide let answers %s", shortRun(got))
	}
	wide.Kids[149].Refs[0] = 149
	if got, want := run.check(t), (impl.RunResult{Outcome: impl.Outcome{End: impl.EndHeap, Steps: 1}, Collections: 1}); got != want {
		t.Errorf("a wide let answers %s", shortRun(got))
	}
}
