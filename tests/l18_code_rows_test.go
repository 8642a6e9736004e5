package tests

import (
	"slices"
	"testing"

	"loop.example/g00017/impl"
)

func TestFormsOfLeaves(t *testing.T) {
	checkFormsRows(t, []formsRow{
		{"5", "0 0 0 0 5\n"},
		{"-123456789012345678901234567890", "0 0 0 0 -123456789012345678901234567890\n"},
		{"'c'", "0 0 0 0 'c'\n"},
		{`"text"`, "0 0 0 0 \"text\"\n"},
		{"C", "0 0 0 0 (con C)\n"},
		{"(C 1)", "0 0 0 1 (let s0 1 (con C s0))\n"},
		{"(C 'a')", "0 0 0 1 (let s0 'a' (con C s0))\n"},
		{"(C D)", "0 0 0 1 (let s0 (con D) (con C s0))\n"},
		{`(C "text")`, "0 0 0 1 (let s0 (make 1) (con C s0))\n1 0 0 0 \"text\"\n"},
		{"(primShow 1)", "0 0 0 1 (let s0 1 (prim primShow s0))\n"},
		{`(primError "text")`, "0 0 0 1 (let s0 (make 1) (prim primError s0))\n1 0 0 0 \"text\"\n"},
	})
}

func TestFormsOfVariables(t *testing.T) {
	checkFormsRows(t, []formsRow{
		// By a function.
		{`(\x -> x)`, "0 0 0 1 (let s0 (make 1) s0)\n1 0 1 1 s0\n"},
		{`(\x y z -> y)`, "0 0 0 1 (let s0 (make 1) s0)\n1 0 3 3 s1\n"},
		{`(\x -> (x x))`, "0 0 0 1 (let s0 (make 1) s0)\n1 0 1 1 (app s0 s0)\n"},
		{`(\x -> (C x x))`, "0 0 0 1 (let s0 (make 1) s0)\n1 0 1 1 (con C s0 s0)\n"},
		{`(\x y -> (primSub y x))`, "0 0 0 1 (let s0 (make 1) s0)\n1 0 2 2 (prim primSub s1 s0)\n"},
		// By a CLet.
		{"(let x = 1 in x)", "0 0 0 1 (let s0 1 s0)\n"},
		{"(let x = 1; y = 'a' in (x y))", "0 0 0 2 (let s0 1 'a' (app s0 s1))\n"},
		// By a CCase.
		{"(case 1 of x { _ -> x })", "0 0 0 1 (case 1 s0 _ s0)\n"},
		{"(case C of x { D y z -> (z x y) })", "0 0 0 3 (case (con C) s0 { D s1 2 (app s2 s0 s1) })\n"},
		// Outside of a form.
		{`(\x -> (\y -> x))`, "0 0 0 1 (let s0 (make 1) s0)\n1 0 1 2 (let s1 (make 2 s0) s1)\n2 1 1 2 s0\n"},
		{"(let x = 1 in (C (primShow x)))", "0 0 0 2 (let s0 1 (let s1 (make 1 s0) (con C s1)))\n1 1 0 1 (prim primShow s0)\n"},
		{"(case 1 of x { _ -> (C (primShow x)) })", "0 0 0 2 (case 1 s0 _ (let s1 (make 1 s0) (con C s1)))\n1 1 0 1 (prim primShow s0)\n"},
		{"(case C of { D x y -> (let z = (y x) in z) })", "0 0 0 3 (case (con C) - { D s0 2 (let s2 (make 1 s1 s0) s2) })\n1 2 0 2 (app s0 s1)\n"},
	})
}

func TestFormsOfThingsMadeByLets(t *testing.T) {
	checkFormsRows(t, []formsRow{
		{"(let x = x in x)", "0 0 0 1 (let s0 (make 1 s0) s0)\n1 1 0 1 s0\n"},
		{"(let x = 12 in 3)", "0 0 0 1 (let s0 12 3)\n"},
		{"(let x = 'c' in 3)", "0 0 0 1 (let s0 'c' 3)\n"},
		{`(let x = "text" in 3)`, "0 0 0 1 (let s0 (make 1) 3)\n1 0 0 0 \"text\"\n"},
		{"(let x = C in 3)", "0 0 0 1 (let s0 (make 1) 3)\n1 0 0 0 (con C)\n"},
		{"(let x = (C 1 x) in 3)", "0 0 0 1 (let s0 (make 1 s0) 3)\n1 1 0 2 (let s1 1 (con C s1 s0))\n"},
		{"(let x = (x 1) in 3)", "0 0 0 1 (let s0 (make 1 s0) 3)\n1 1 0 2 (let s1 1 (app s0 s1))\n"},
		{`(let x = (\y -> (x y)) in 3)`, "0 0 0 1 (let s0 (make 1 s0) 3)\n1 1 1 2 (app s0 s1)\n"},
		{"(let x = (let y = x in y) in 3)", "0 0 0 1 (let s0 (make 1 s0) 3)\n1 1 0 2 (let s1 (make 2 s0) s1)\n2 1 0 1 s0\n"},
		{"(let x = (case x of y { A z -> z; _ -> y }) in 3)", "0 0 0 1 (let s0 (make 1 s0) 3)\n1 1 0 3 (case s0 s1 { A s2 1 s2 } _ s1)\n"},
		{"(let x = (primAdd x 1) in 3)", "0 0 0 1 (let s0 (make 1 s0) 3)\n1 1 0 2 (let s1 1 (prim primAdd s0 s1))\n"},
		{"(let x = (primSeq x 1) in 3)", "0 0 0 1 (let s0 (make 1 s0) 3)\n1 1 0 1 (case s0 - _ 1)\n"},
	})
}

func TestFormsOfAtoms(t *testing.T) {
	checkFormsRows(t, []formsRow{
		{"(1 2)", "0 0 0 2 (let s0 1 (let s1 2 (app s0 s1)))\n"},
		{"(1 'a' C)", "0 0 0 3 (let s0 1 (let s1 'a' (let s2 (con C) (app s0 s1 s2))))\n"},
		{`((\x -> x) 1)`, "0 0 0 2 (let s0 (make 1) (let s1 1 (app s0 s1)))\n1 0 1 1 s0\n"},
		{`(C (let x = 1 in x))`, "0 0 0 1 (let s0 (make 1) (con C s0))\n1 0 0 1 (let s0 1 s0)\n"},
		{`(C (case 1 of { _ -> 2 }))`, "0 0 0 1 (let s0 (make 1) (con C s0))\n1 0 0 0 (case 1 - _ 2)\n"},
		{`(C (primSeq 1 2))`, "0 0 0 1 (let s0 (make 1) (con C s0))\n1 0 0 0 (case 1 - _ 2)\n"},
		{`(C (primAdd 1 2))`, "0 0 0 1 (let s0 (make 1) (con C s0))\n1 0 0 2 (let s0 1 (let s1 2 (prim primAdd s0 s1)))\n"},
		{`(primAdd 1 (primMul 2 3))`, "0 0 0 2 (let s0 1 (let s1 (make 1) (prim primAdd s0 s1)))\n1 0 0 2 (let s0 2 (let s1 3 (prim primMul s0 s1)))\n"},
		{`(primAdd (primMul 2 3) 1)`, "0 0 0 2 (let s0 (make 1) (let s1 1 (prim primAdd s0 s1)))\n1 0 0 2 (let s0 2 (let s1 3 (prim primMul s0 s1)))\n"},
		// Constructors in constructors: each behind its kids.
		{"(C D (E F))", "0 0 0 3 (let s0 (con D) (let s1 (con F) (let s2 (con E s1) (con C s0 s2))))\n"},
		{"(C (D (E 1)) 2)", "0 0 0 4 (let s0 1 (let s1 (con E s0) (let s2 (con D s1) (let s3 2 (con C s2 s3)))))\n"},
		{"(1 (D 2 (E 3 4) 5))", "0 0 0 7 (let s0 1 (let s1 2 (let s2 3 (let s3 4 (let s4 (con E s2 s3) (let s5 5 (let s6 (con D s1 s4 s5) (app s0 s6))))))))\n"},
		{"(primShow (C 1))", "0 0 0 2 (let s0 1 (let s1 (con C s0) (prim primShow s1)))\n"},
		// Some of them are atoms already.
		{`(\f x -> (f 1 x (C x) (\y -> x) (f x)))`, "0 0 0 1 (let s0 (make 1) s0)\n" +
			"1 0 2 6 (let s2 1 (let s3 (con C s1) (let s4 (make 2 s1) (let s5 (make 3 s0 s1) (app s0 s2 s1 s3 s4 s5)))))\n" +
			"2 1 1 2 s0\n3 2 0 2 (app s0 s1)\n"},
		{`(\a f -> (f (C a 1 (D 'c' a) (\z -> a) (f a) "s")))`, "0 0 0 1 (let s0 (make 1) s0)\n" +
			"1 0 2 9 (let s2 1 (let s3 'c' (let s4 (con D s3 s0) (let s5 (make 2 s0) (let s6 (make 3 s1 s0) (let s7 (make 4) (let s8 (con C s0 s2 s4 s5 s6 s7) (app s1 s8))))))))\n" +
			"2 1 1 2 s0\n3 2 0 2 (app s0 s1)\n4 0 0 0 \"s\"\n"},
		{`(\x y -> (primLess x y))`, "0 0 0 1 (let s0 (make 1) s0)\n1 0 2 2 (prim primLess s0 s1)\n"},
		{`(\x -> (primEq 1 x))`, "0 0 0 1 (let s0 (make 1) s0)\n1 0 1 2 (let s1 1 (prim primEq s1 s0))\n"},
		{`(\x -> (primEq x 1))`, "0 0 0 1 (let s0 (make 1) s0)\n1 0 1 2 (let s1 1 (prim primEq s0 s1))\n"},
		{`(\x -> ((x x) x))`, "0 0 0 1 (let s0 (make 1) s0)\n1 0 1 2 (let s1 (make 2 s0) (app s1 s0))\n2 1 0 1 (app s0 s0)\n"},
	})
}

func TestFormsOfPrims(t *testing.T) {
	for name, count := range primCounts() {
		switch {
		case name == "primSeq":
			continue
		case count == 1:
			checkFormsRows(t, []formsRow{{`(\x -> (` + name + " x))", "0 0 0 1 (let s0 (make 1) s0)\n1 0 1 1 (prim " + name + " s0)\n"}})
		default:
			checkFormsRows(t, []formsRow{{`(\x -> (` + name + " x 7))", "0 0 0 1 (let s0 (make 1) s0)\n1 0 1 2 (let s1 7 (prim " + name + " s0 s1))\n"}})
		}
	}
	checkFormsRows(t, []formsRow{
		{"(primSeq 1 2)", "0 0 0 0 (case 1 - _ 2)\n"},
		{`(\x y -> (primSeq (x y) (primSeq y (C x))))`, "0 0 0 1 (let s0 (make 1) s0)\n1 0 2 2 (case (app s0 s1) - _ (case s1 - _ (con C s0)))\n"},
		{`(primSeq (\x -> x) (\y -> 1))`, "0 0 0 2 (case (let s0 (make 1) s0) - _ (let s1 (make 2) s1))\n1 0 1 1 s0\n2 0 1 1 1\n"},
		{"(primSeq (C 1) (D 2))", "0 0 0 2 (case (let s0 1 (con C s0)) - _ (let s1 2 (con D s1)))\n"},
		{"(primSeq (primSeq 1 2) 3)", "0 0 0 0 (case (case 1 - _ 2) - _ 3)\n"},
	})
}

func TestFormsOfLets(t *testing.T) {
	checkFormsRows(t, []formsRow{
		{`(let f = (\x -> (g x)); g = (\y -> (f y f)); n = 7; m = n in (f m))`,
			"0 0 0 4 (let s0 (make 1 s1) (make 2 s0) 7 (make 3 s2) (app s0 s3))\n1 1 1 2 (app s0 s1)\n2 1 1 2 (app s0 s1 s0)\n3 1 0 1 s0\n"},
		{"(let x = y; y = (K x) in x)", "0 0 0 2 (let s0 (make 1 s1) (make 2 s0) s0)\n1 1 0 1 s0\n2 1 0 1 (con K s0)\n"},
		{"(let x = (C y z x); y = (C z x); z = 1 in (C x y z))",
			"0 0 0 3 (let s0 (make 1 s1 s2 s0) (make 2 s2 s0) 1 (con C s0 s1 s2))\n1 3 0 3 (con C s0 s1 s2)\n2 2 0 2 (con C s0 s1)\n"},
		{"(let x = 1 in (let y = x in (let z = (C x y) in z)))",
			"0 0 0 3 (let s0 1 (let s1 (make 1 s0) (let s2 (make 2 s0 s1) s2)))\n1 1 0 1 s0\n2 2 0 2 (con C s0 s1)\n"},
		{"(let x = 1 in 2)", "0 0 0 1 (let s0 1 2)\n"},
		// What is made for the last kid comes behind the names.
		{"(let x = 1; y = 2 in (C 3 x 4))", "0 0 0 4 (let s0 1 2 (let s2 3 (let s3 4 (con C s2 s0 s3))))\n"},
		{`(let x = 1 in (\y -> (y x)))`, "0 0 0 2 (let s0 1 (let s1 (make 1 s0) s1))\n1 1 1 2 (app s1 s0)\n"},
	})
}

func TestFormsOfCases(t *testing.T) {
	checkFormsRows(t, []formsRow{
		{"(case 1 of { _ -> 2 })", "0 0 0 0 (case 1 - _ 2)\n"},
		{"(case 1 of { A -> 2 })", "0 0 0 0 (case 1 - { A s0 0 2 })\n"},
		{"(case 1 of x { A -> 2 })", "0 0 0 1 (case 1 s0 { A s1 0 2 })\n"},
		{"(case 1 of { A -> 2; B -> 3; _ -> 4 })", "0 0 0 0 (case 1 - { A s0 0 2 } { B s0 0 3 } _ 4)\n"},
		{"(case C of v { D a b -> b; E c -> c; F -> v; _ -> v })", "0 0 0 4 (case (con C) s0 { D s1 2 s2 } { E s3 1 s3 } { F s4 0 s0 } _ s0)\n"},
		{"(case C of { D a b -> b; E c -> c; F -> 1 })", "0 0 0 3 (case (con C) - { D s0 2 s1 } { E s2 1 s2 } { F s3 0 1 })\n"},
		// Slots go on from place to place: what is looked at, the name, each alternative with its body, the default.
		{"(case (C 1) of v { D a -> (E 2 a); _ -> (F v 3) })",
			"0 0 0 5 (case (let s0 1 (con C s0)) s1 { D s2 1 (let s3 2 (con E s3 s2)) } _ (let s4 3 (con F s1 s4)))\n"},
		{"(case (C 1) of { D a -> (E 2 a); G b c -> (H 3 c b); _ -> (F 4) })",
			"0 0 0 7 (case (let s0 1 (con C s0)) - { D s1 1 (let s2 2 (con E s2 s1)) } { G s3 2 (let s5 3 (con H s5 s4 s3)) } _ (let s6 4 (con F s6)))\n"},
		{"(case (case 1 of a { _ -> (C a 2) }) of b { _ -> (D b 3) })",
			"0 0 0 4 (case (case 1 s0 _ (let s1 2 (con C s0 s1))) s2 _ (let s3 3 (con D s2 s3)))\n"},
		{"(case 1 of a { A b -> (case b of c { B d -> (C a b c d); _ -> c }); _ -> (case a of d { _ -> d }) })",
			"0 0 0 5 (case 1 s0 { A s1 1 (case s1 s2 { B s3 1 (con C s0 s1 s2 s3) } _ s2) } _ (case s0 s4 _ s4))\n"},
		{"(case (case C of { A x -> x }) of { A x -> x })", "0 0 0 2 (case (case (con C) - { A s0 1 s0 }) - { A s1 1 s1 })\n"},
		// Bodies that ask for forms do it in their order.
		{`(case (\x -> 1) of { A -> (\x -> 2); B -> (\x -> 3); _ -> (\x -> 4) })`,
			"0 0 0 4 (case (let s0 (make 1) s0) - { A s1 0 (let s1 (make 2) s1) } { B s2 0 (let s2 (make 3) s2) } _ (let s3 (make 4) s3))\n1 0 1 1 1\n2 0 1 1 2\n3 0 1 1 3\n4 0 1 1 4\n"},
	})
}

// What is brought along stands in the order of FreeNames, in slots of the form's own.
func TestFormsBringSlotsAlong(t *testing.T) {
	checkFormsRows(t, []formsRow{
		{`(\a b c -> (C (b a (c b)) a))`, "0 0 0 1 (let s0 (make 1) s0)\n" +
			"1 0 3 4 (let s3 (make 2 s1 s0 s2) (con C s3 s0))\n" +
			"2 3 0 4 (let s3 (make 3 s2 s0) (app s0 s1 s3))\n" +
			"3 2 0 2 (app s0 s1)\n"},
		{`(\a b c d -> (\e -> (C d (\f -> (a f e)) b d)))`, "0 0 0 1 (let s0 (make 1) s0)\n" +
			"1 0 4 5 (let s4 (make 2 s3 s0 s1) s4)\n" +
			"2 3 1 5 (let s4 (make 3 s1 s3) (con C s0 s4 s2 s0))\n" +
			"3 2 1 3 (app s0 s2 s1)\n"},
		{`(\a b c -> (primShow (case b of { A -> c; B d -> (d a); _ -> b })))`, "0 0 0 1 (let s0 (make 1) s0)\n" +
			"1 0 3 4 (let s3 (make 2 s1 s2 s0) (prim primShow s3))\n" +
			"2 3 0 4 (case s0 - { A s3 0 s1 } { B s3 1 (app s3 s2) } _ s0)\n"},
		{`(\a b c -> (primShow (let x = (c b); y = a in (b y))))`, "0 0 0 1 (let s0 (make 1) s0)\n" +
			"1 0 3 4 (let s3 (make 2 s2 s1 s0) (prim primShow s3))\n" +
			"2 3 0 5 (let s3 (make 3 s0 s1) (make 4 s2) (app s1 s4))\n" +
			"3 2 0 2 (app s0 s1)\n4 1 0 1 s0\n"},
		// Only what stands free in it, however far in.
		{`(\a b -> (\c -> (\d -> (\e -> b))))`, "0 0 0 1 (let s0 (make 1) s0)\n1 0 2 3 (let s2 (make 2 s1) s2)\n2 1 1 3 (let s2 (make 3 s0) s2)\n3 1 1 3 (let s2 (make 4 s0) s2)\n4 1 1 2 s0\n"},
	})
}

func TestFormsOfNamesBoundAgain(t *testing.T) {
	checkFormsRows(t, []formsRow{
		{`(\x -> (C (\x -> x) x))`, "0 0 0 1 (let s0 (make 1) s0)\n1 0 1 2 (let s1 (make 2) (con C s1 s0))\n2 0 1 1 s0\n"},
		{"(let x = 1 in (let x = (primShow x) in x))", "0 0 0 2 (let s0 1 (let s1 (make 1 s1) s1))\n1 1 0 1 (prim primShow s0)\n"},
		{`(\x -> (case x of x { A x -> x; _ -> x }))`, "0 0 0 1 (let s0 (make 1) s0)\n1 0 1 3 (case s0 s1 { A s2 1 s2 } _ s1)\n"},
		{`(\x -> (case x of { A x -> x; B -> x; _ -> x }))`, "0 0 0 1 (let s0 (make 1) s0)\n1 0 1 2 (case s0 - { A s1 1 s1 } { B s2 0 s0 } _ s0)\n"},
		{`(\x -> (case (case x of x { _ -> x }) of { A x -> x; _ -> x }))`, "0 0 0 1 (let s0 (make 1) s0)\n1 0 1 3 (case (case s0 s1 _ s1) - { A s2 1 s2 } _ s0)\n"},
		{`(\x -> (C (case x of { A x -> x }) x))`, "0 0 0 1 (let s0 (make 1) s0)\n1 0 1 2 (let s1 (make 2 s0) (con C s1 s0))\n2 1 0 2 (case s0 - { A s1 1 s1 })\n"},
		{`(\x y -> (primSeq (let x = y in x) (let y = x in (C y x))))`, "0 0 0 1 (let s0 (make 1) s0)\n" +
			"1 0 2 4 (case (let s2 (make 2 s1) s2) - _ (let s3 (make 3 s0) (con C s3 s0)))\n2 1 0 1 s0\n3 1 0 1 s0\n"},
		{`(\x y -> (C (\y -> (x y)) (\x -> (x y)) (\z x -> (z x y)) (x y)))`, "0 0 0 1 (let s0 (make 1) s0)\n" +
			"1 0 2 6 (let s2 (make 2 s0) (let s3 (make 3 s1) (let s4 (make 4 s1) (let s5 (make 5 s0 s1) (con C s2 s3 s4 s5)))))\n" +
			"2 1 1 2 (app s0 s1)\n3 1 1 2 (app s1 s0)\n4 1 2 3 (app s1 s2 s0)\n5 2 0 2 (app s0 s1)\n"},
		{`(let x = (\y -> (let x = (x y) in x)) in (let y = x in (y x)))`, "0 0 0 2 (let s0 (make 1) (let s1 (make 3 s0) (app s1 s0)))\n" +
			"1 0 1 2 (let s1 (make 2 s1 s0) s1)\n2 2 0 2 (app s0 s1)\n3 1 0 1 s0\n"},
	})
}

// A form within a form has the next number when it is asked for: behind that of what it stands in, ahead of those that come later there.
func TestFormsAreNumberedAsTheyAreAskedFor(t *testing.T) {
	checkFormsRows(t, []formsRow{
		{"(C (primShow (primAdd 1 2)) (primShow (primMul 3 4)))", "0 0 0 2 (let s0 (make 1) (let s1 (make 3) (con C s0 s1)))\n" +
			"1 0 0 1 (let s0 (make 2) (prim primShow s0))\n2 0 0 2 (let s0 1 (let s1 2 (prim primAdd s0 s1)))\n" +
			"3 0 0 1 (let s0 (make 4) (prim primShow s0))\n4 0 0 2 (let s0 3 (let s1 4 (prim primMul s0 s1)))\n"},
		{`(let f = (\x -> (\y -> (C (x y)))); g = (f f) in (primSeq (g 1) (f (g 2) (\z -> g))))`,
			"0 0 0 5 (let s0 (make 1) (make 4 s0) (case (let s2 1 (app s1 s2)) - _ (let s3 (make 5 s1) (let s4 (make 6 s1) (app s0 s3 s4)))))\n" +
				"1 0 1 2 (let s1 (make 2 s0) s1)\n2 1 1 3 (let s2 (make 3 s0 s1) (con C s2))\n3 2 0 2 (app s0 s1)\n" +
				"4 1 0 1 (app s0 s0)\n5 1 0 2 (let s1 2 (app s0 s1))\n6 1 1 2 s0\n"},
		{`(C (D (primShow 1)) (E (F (primShow 2)) "t") (primShow 3))`, "0 0 0 7 (let s0 (make 1) (let s1 (con D s0) (let s2 (make 2) (let s3 (con F s2) (let s4 (make 3) (let s5 (con E s3 s4) (let s6 (make 4) (con C s1 s5 s6))))))))\n" +
			"1 0 0 1 (let s0 1 (prim primShow s0))\n2 0 0 1 (let s0 2 (prim primShow s0))\n3 0 0 0 \"t\"\n4 0 0 1 (let s0 3 (prim primShow s0))\n"},
		{`((\a -> (\b -> (\c -> a))) (\d -> (\e -> d)) "t")`, "0 0 0 3 (let s0 (make 1) (let s1 (make 4) (let s2 (make 6) (app s0 s1 s2))))\n" +
			"1 0 1 2 (let s1 (make 2 s0) s1)\n2 1 1 3 (let s2 (make 3 s0) s2)\n3 1 1 2 s0\n4 0 1 2 (let s1 (make 5 s0) s1)\n5 1 1 2 s0\n6 0 0 0 \"t\"\n"},
		{`(let x = (let y = (primShow 1) in y) in (case (\z -> (primShow (x z))) of { A -> (C (primShow 2)); _ -> (\z -> x) }))`,
			"0 0 0 4 (let s0 (make 1) (case (let s1 (make 3 s0) s1) - { A s2 0 (let s2 (make 5) (con C s2)) } _ (let s3 (make 6 s0) s3)))\n" +
				"1 0 0 1 (let s0 (make 2) s0)\n2 0 0 1 (let s0 1 (prim primShow s0))\n3 1 1 3 (let s2 (make 4 s0 s1) (prim primShow s2))\n4 2 0 2 (app s0 s1)\n" +
				"5 0 0 1 (let s0 2 (prim primShow s0))\n6 1 1 2 s0\n"},
	})
}

// No forms of what has a fault, or a name that stands free.
func TestFormsOfNoClosedTerm(t *testing.T) {
	x := coreVar("x")
	for _, text := range []string{"x", "(C x)", "(x 1)", `(\x -> y)`, `(\x -> (\y -> (C x z)))`, "(let x = y in x)", "(let x = 1 in y)", "(case x of { _ -> 1 })", "(case 1 of x { A y -> y; _ -> y })", "(case x of x { _ -> x })", "(case 1 of { A x -> 1; _ -> x })", "(primAdd 1 x)", "(primSeq x 1)", "(primError x)"} {
		if got := impl.FormsOf(readCore(text)); len(got) != 0 {
			t.Errorf("%s has %d forms", text, len(got))
		}
		checkForms(t, readCore(text))
	}
	for i, c := range []impl.Core{{}, {Kind: 11}, {Kind: -1}, coreVar(""), coreCon(""), coreApp(coreInt(1)), coreChar("ab"), coreChar(""), coreString(""), corePrim("primAdd", coreInt(1)), corePrim("primNone", coreInt(1)), coreLam("x x", x), coreLam("", coreInt(1)), coreLet("x", x), coreCase("", []impl.Core{coreInt(1)}), {Kind: impl.CInt, Big: impl.Big{Minus: true}}, {Kind: impl.CInt, Big: impl.BigOf(1), Kids: []impl.Core{coreInt(1)}}} {
		for _, whole := range []impl.Core{c, coreCon("C", c), coreLam("x", c), coreLet("x", coreInt(1), c), coreCase("", []impl.Core{coreInt(1)}, coreAlt("A", c))} {
			if got := impl.FormsOf(whole); len(got) != 0 {
				t.Errorf("term %d has %d forms", i, len(got))
			}
		}
	}
	long, deep := severalOf(impl.MaxCore-1, coreInt(1)), raised(coreInt(1), impl.MaxCoreDeep-1, coreLevels()["constructor"])
	if len(impl.FormsOf(long)) != 1 || len(impl.FormsOf(deep)) != 1 {
		t.Error("the greatest terms have no forms")
	}
	long.Kids = append(slices.Clone(long.Kids), coreInt(1))
	if len(impl.FormsOf(long)) != 0 || len(impl.FormsOf(coreCon("C", deep))) != 0 {
		t.Error("terms that are too great have forms")
	}
}
