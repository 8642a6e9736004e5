package tests

import (
	"strings"
	"testing"

	"loop.example/g00017/impl"
)

// A givenTerm is given as a field, as an argument and by a let, with the steps that it takes there when it is first asked for.
type givenTerm struct {
	text          string
	asGiven, byIt int64
}

// givenTerms may name v, which stands for a value, and s, which is suspended and takes two steps.
func givenTerms() []givenTerm {
	return []givenTerm{
		// What it is at once.
		{`7`, 0, 0},
		{`'c'`, 0, 0},
		{`(\x -> x)`, 0, 0},
		{`C`, 0, 0},
		{`(C (primError "e") v s)`, 0, 0},
		{`(C (C (C s)))`, 0, 0},
		// A variable: what it stands for, but by a let it is suspended.
		{`v`, 0, 1},
		{`s`, 2, 3},
		// Suspended.
		{`"text"`, 1, 1},
		{`(primAdd 1 2)`, 3, 3},
		{`(primSeq v 2)`, 3, 3},
		{`(primShow 12)`, 2, 2},
		{`((\x -> x) 7)`, 3, 3},
		{`((\x y -> x) 7)`, 2, 2},
		{`((\x -> x) s)`, 5, 5},
		{`(let x = 7 in x)`, 2, 2},
		{`(let x = 7 in (C x))`, 2, 2},
		{`(case C of { C -> 7 })`, 3, 3},
		{`(case v of x { _ -> x })`, 3, 3},
	}
}

// What is given takes its steps when it is first asked for, and none when it is asked for again.
func TestWhatIsGiven(t *testing.T) {
	t.Parallel()
	const ahead, behind = `(let v = 5 in (let s = (let w = 6 in w) in `, `))`
	var rows []meant
	for _, one := range givenTerms() {
		for asked := range int64(4) {
			uses := strings.Repeat("(primSeq x ", int(asked)) + "[]" + strings.Repeat(")", int(asked))
			add := func(text string, steps, first int64) {
				if asked > 0 {
					steps += first
				}
				rows = append(rows, meant{ahead + text + behind, impl.EndDone, "", "", 2 + steps + 2*asked + 1})
			}
			add(`(case (P 1 `+one.text+`) of { P y x -> `+uses+` })`, 2, one.asGiven)
			add(`(case (P `+one.text+`) of { P x -> (case (P x) of { P x -> `+uses+` }) })`, 4, one.asGiven)
			add(`((\y x -> `+uses+`) 1 `+one.text+`)`, 2, one.asGiven)
			add(`((\y -> (\x -> `+uses+`)) 1 `+one.text+`)`, 3, one.asGiven)
			add(`(((\x y -> `+uses+`) `+one.text+`) 1)`, 3, one.asGiven)
			add(`(let x = `+one.text+` in `+uses+`)`, 1, one.byIt)
			add(`(let x = y; y = `+one.text+` in `+uses+`)`, 1, 1+one.byIt)
		}
		// A case works it out, so that its name stands for a value.
		looked := int64(1)
		switch {
		case one.text == "s":
			looked = 3
		case one.asGiven > 0:
			looked = one.asGiven
		}
		rows = append(rows, meant{ahead + `(case ` + one.text + ` of x { _ -> (primSeq x (primSeq x [])) })` + behind, impl.EndDone, "", "", 2 + 1 + looked + 4 + 1})
	}
	checkMeant(t, rows)
}

// Two names for one suspended thing: it is worked out once, whichever is asked for.
func TestWhatIsNamedIsWorkedOutOnce(t *testing.T) {
	t.Parallel()
	const slow = `(let a = (primAdd 1 2) in (let b = (primAdd a a) in (primAdd b b)))` // 11 steps
	checkMeant(t, []meant{
		{`(let x = ` + slow + ` in (primShow x))`, impl.EndDone, "12", "", 14},
		{`(let x = ` + slow + ` in (primShow (primAdd x x)))`, impl.EndDone, "24", "", 16},
		{`(let x = ` + slow + ` in (primShow (primAdd x (primAdd x (primAdd x x)))))`, impl.EndDone, "48", "", 20},
		{`((\x -> (primShow (primAdd x x))) ` + slow + `)`, impl.EndDone, "24", "", 17},
		{`((\x -> ((\y z -> (primShow (primAdd x (primAdd y z)))) x x)) ` + slow + `)`, impl.EndDone, "36", "", 21},
		{`(case (P ` + slow + `) of { P x -> (primShow (primAdd x x)) })`, impl.EndDone, "24", "", 17},
		{`(case (P ` + slow + `) of p { P x -> (case p of { P y -> (primShow (primAdd x y)) }) })`, impl.EndDone, "24", "", 19},
		{`(let x = ` + slow + `; p = (P x x) in (case p of { P y z -> (primShow (primAdd y (primAdd z x))) }))`, impl.EndDone, "36", "", 20},
		{`(let x = ` + slow + `; y = x; z = y in (primShow (primAdd z (primAdd y x))))`, impl.EndDone, "36", "", 20},
		// Partial applications share what they have taken.
		{`(let f = ((\x y -> (primAdd x y)) ` + slow + `) in (primShow (primAdd (f 1) (f 2))))`, impl.EndDone, "27", "", 26},
		{`(let f = ((\x -> (\y -> (primAdd x y))) ` + slow + `) in (primShow (primAdd (f 1) (f 2))))`, impl.EndDone, "27", "", 27},
		{`(let f = (\u -> ` + slow + `) in (primShow (primAdd (f 1) (f 1))))`, impl.EndDone, "24", "", 29},
		// Cells of a list, told and read.
		{`(let c = (primChr (primAdd 60 5)) in (: c (: c (: c []))))`, impl.EndDone, "AAA", "", 6},
		{`(let l = (: (primChr 65) l) in (case l of { : a r -> (case r of { : b s -> (: a (: b [])) }) }))`, impl.EndDone, "AA", "", 8},
		{`(let l = (primShow (primMul 6 7)) in (case l of { : a r -> (: a l) }))`, impl.EndDone, "442", "", 8},
	})
}

func TestWhatIsNotAskedForIsNotWorkedOut(t *testing.T) {
	t.Parallel()
	var rows []meant
	for _, bad := range []string{
		`(primError "e")`, `(primDiv 1 0)`, `(primChr 256)`, // an error
		`(let l = l in l)`, `(let f = (\x -> (f x)) in (f 1))`, `(let f = (\x -> (primAdd 1 (f x))) in (f 1))`, // a loop, short or long
		`(1 1)`, `(primAdd 'c' 1)`, `(case A of { B -> 1 })`, // stuck
	} {
		rows = append(rows, []meant{
			{`(let x = ` + bad + ` in "a")`, impl.EndDone, "a", "", 2},
			{`(let x = ` + bad + `; y = x; z = (C x y) in (primSeq z "a"))`, impl.EndDone, "a", "", 4},
			{`((\x -> "a") ` + bad + `)`, impl.EndDone, "a", "", 3},
			{`((\x y z -> y) ` + bad + ` "a" ` + bad + `)`, impl.EndDone, "a", "", 4},
			{`(case (P ` + bad + `) of { P x -> "a" })`, impl.EndDone, "a", "", 3},
			{`(case (P ` + bad + ` "a") of x { P y z -> z })`, impl.EndDone, "a", "", 4},
			{`(case A of { A -> "a"; B -> ` + bad + `; _ -> ` + bad + ` })`, impl.EndDone, "a", "", 3},
			{`(case C of { A -> ` + bad + `; _ -> "a" })`, impl.EndDone, "a", "", 3},
			{`(primSeq (\x -> ` + bad + `) "a")`, impl.EndDone, "a", "", 3},
			{`(primSeq ((\x y -> ` + bad + `) ` + bad + `) "a")`, impl.EndDone, "a", "", 4},
			{`(case "a" of { : h r -> (case (: ` + bad + ` (: h r)) of { : i s -> s }) })`, impl.EndDone, "a", "", 5},
			{`(let f = (\x y -> (case x of { True -> "a"; False -> y })) in (f True ` + bad + `))`, impl.EndDone, "a", "", 6},
		}...)
	}
	checkMeant(t, rows)
}

func TestWhatAsksForItself(t *testing.T) {
	t.Parallel()
	checkMeant(t, []meant{
		// Directly.
		{`(let x = x in x)`, impl.EndLoop, "", "", 3},
		{`(let x = (primAdd x 1) in (primShow x))`, impl.EndLoop, "", "", 5},
		{`(let x = (primAdd 1 x) in (primShow x))`, impl.EndLoop, "", "", 6},
		{`(let x = (primSeq x "a") in x)`, impl.EndLoop, "", "", 4},
		{`(let x = (primSeq 1 x) in x)`, impl.EndLoop, "", "", 5},
		{`(let x = (case x of { _ -> "a" }) in x)`, impl.EndLoop, "", "", 4},
		{`(let x = (case A of { _ -> x }) in x)`, impl.EndLoop, "", "", 5},
		{`(let x = (x 1) in x)`, impl.EndLoop, "", "", 4},
		{`(let x = (let y = 1 in x) in x)`, impl.EndLoop, "", "", 4},
		{`(let x = (primError x) in x)`, impl.EndLoop, "", "", 4},
		// Through others.
		{`(let x = y; y = x in x)`, impl.EndLoop, "", "", 4},
		{`(let x = y; y = z; z = x in y)`, impl.EndLoop, "", "", 5},
		{`(let x = (primAdd y 1); y = (primAdd x 1) in (primShow y))`, impl.EndLoop, "", "", 7},
		{`(let x = (let y = x in y) in x)`, impl.EndLoop, "", "", 5},
		{`(let f = (\y -> y); x = (f x) in x)`, impl.EndLoop, "", "", 5},
		{`(let f = (\y -> (primSeq y "a")); x = (f x) in x)`, impl.EndLoop, "", "", 6},
		{`(let x = (case p of { P y -> y }); p = (P x) in x)`, impl.EndLoop, "", "", 5},
		{`(let p = (case p of { P y -> (P y) }) in (case p of { P y -> "a" }))`, impl.EndLoop, "", "", 5},
		{`((\x -> (let y = (primAdd y x) in (primShow y))) 1)`, impl.EndLoop, "", "", 7},
		// Where something was told.
		{`(let l = (: 'a' (: 'b' r)); r = (case r of { _ -> "c" }) in l)`, impl.EndLoop, "ab", "", 4},
		{`(let c = (primChr (primOrd c)) in (: 'a' (: c "b")))`, impl.EndLoop, "a", "", 5},
		// What asks for itself only once it is a value does not loop.
		{`(let x = (let y = (: 'a' x) in y) in (case x of { : h r -> (case r of { : i s -> (: h (: i [])) }) }))`, impl.EndDone, "aa", "", 8},
		{`(let f = (\n -> (case (primEq n 0) of { True -> "a"; False -> (f (primSub n 1)) })) in (f 3))`, impl.EndDone, "a", "", 35},
	})
	// A function that calls itself is none that asks for itself.
	spin := readCore(`(let f = (\x -> (f x)) in (f 1))`)
	if got, want := impl.Meaning(spin, 1, "", 1001), (impl.Outcome{End: impl.EndSteps, Steps: 1001}); got != want {
		t.Errorf("it tells %v", got)
	}
}
