package tests

import (
	"strings"
	"testing"

	"loop.example/g00017/impl"
)

func TestStrictVariablesAndValues(t *testing.T) {
	checkStrictRows(t, []strictRow{
		{"x", "x", "y nowhere X x' xx"},
		{"x'", "x'", "x x''"},
		{"@1", "@1", "@2 1"},
		{"1", "", "x 1"},
		{"-12", "", "x -12"},
		{"'x'", "", "x"},
		{`"x"`, "", "x"},
		{"X", "", "X x"},
		{"(X x)", "", "x X"},
		{"(X x (primError x))", "", "x y"},
		{"(: (primAdd x 1) x)", "", "x :"},
		{`(\y -> x)`, "", "x y"},
		{`(\x -> x)`, "", "x y"},
		{`(\y -> (primError x))`, "", "x y z"},
	})
	for _, c := range []impl.Core{coreCon("x"), coreCon("x", coreVar("x")), coreChar("x"), coreString("x")} {
		if impl.StrictIn(c, "x") || impl.StrictIn(c, "") {
			t.Errorf("%s is strict", coreText(c))
		}
	}
}

func TestStrictCalls(t *testing.T) {
	checkStrictRows(t, []strictRow{
		{"(x 1)", "x", "y"},
		{"(x y)", "x", "y"},
		{"(x x)", "x", "y"},
		{"(x y z)", "x", "y z"},
		{"(f x)", "f", "x"},
		{"(f (x 1))", "f", "x"},
		{"(f 1 x)", "f", "x"},
		{"((x y) z)", "x", "y z"},
		{"((f x) y)", "f", "x y"},
		{"((primAdd x y) z)", "x y", "z"},
		{`((\y -> y) x)`, "", "x y"},
		{`((\y -> x) 1)`, "", "x y"},
		{"((primError 1) x)", "x y z", ""},
		{"(f (primError 1))", "f", "x y z"},
		{"((C x) y)", "", "x y"},
		{"(1 x)", "", "x"},
		{"((let y = x in y) z)", "x", "y z"},
	})
}

func TestStrictPrims(t *testing.T) {
	for name, count := range primCounts() {
		rows := []strictRow{{"(" + name + " x)", "x", "y"}, {"(" + name + " 1)", "", "x y"}, {"(" + name + " (C x))", "", "x y"}, {"(" + name + " (primAdd 1 (x 2)))", "x", "y"}}
		if count == 2 {
			rows = []strictRow{
				{"(" + name + " x 1)", "x", "y"},
				{"(" + name + " 1 x)", "x", "y"},
				{"(" + name + " x y)", "x y", "z"},
				{"(" + name + " x x)", "x", "y"},
				{"(" + name + " 1 2)", "", "x y"},
				{"(" + name + ` (\x -> x) (C x))`, "", "x y"},
				{"(" + name + " 1 (primError 2))", "x y z", ""},
				{"(" + name + " (primError 2) 1)", "x y z", ""},
			}
		}
		if name == "primError" {
			for i := range rows {
				rows[i].in, rows[i].notIn = "x y z nowhere primError", ""
			}
		}
		for i := range rows {
			if name != "primError" && !strings.Contains(rows[i].term, "primError") {
				rows[i].notIn += " " + name
			}
		}
		checkStrictRows(t, rows)
	}
}

func TestStrictLets(t *testing.T) {
	checkStrictRows(t, []strictRow{
		// By the last kid.
		{"(let y = 1 in x)", "x", "y"},
		{"(let y = z in x)", "x", "y z"},
		{"(let y = 1; z = 2 in (primAdd y (primAdd z x)))", "x", "y z"},
		{"(let y = 1 in (primError y))", "x z", "y"},
		// Through one of its names.
		{"(let y = x in y)", "x", "y"},
		{"(let y = (x 1) in (y 2))", "x", "y"},
		{"(let y = (primError 1) in y)", "x z", "y"},
		{"(let y = x; z = 1 in y)", "x", "y z"},
		{"(let z = 1; y = x in y)", "x", "y z"},
		{"(let y = a; z = b in (primSeq y z))", "a b", "y z x"},
		{"(let y = a; z = b in (case w of { A -> y; _ -> (primAdd y z) }))", "a w", "b y z"},
		{"(let y = (case a of { A -> x; _ -> x }) in y)", "x a", "y"},
		// Through several of them, one after the other, in each order.
		{"(let y = z; z = x in y)", "x", "y z"},
		{"(let z = x; y = z in y)", "x", "y z"},
		{"(let a = b; b = c; c = x in a)", "x", "a b c"},
		{"(let c = x; b = c; a = b in a)", "x", "a b c"},
		{"(let b = c; c = x; a = b in a)", "x", "a b c"},
		{"(let b = c; a = (b 1); c = (primAdd 1 x) in (primShow a))", "x", "a b c"},
		{"(let a = b; b = c; c = x in b)", "x", "a b c"},
		{"(let a = y; b = c; c = x in b)", "x", "y a b c"},
		{"(let a = (primAdd b d); b = y; d = x in a)", "x y", "a b d"},
		{"(let a = b; b = (primError 1); c = x in a)", "x z", "a b c"},
		{"(let a = b; b = (primError 1); c = (primError 2) in a)", "x", "a b c"},
		// Through names that lead round to one another.
		{"(let a = a in a)", "", "x a"},
		{"(let a = (primAdd a x) in a)", "x", "a"},
		{"(let a = b; b = a in a)", "", "x a b"},
		{"(let a = b; b = (primAdd a x) in a)", "x", "a b"},
		{"(let a = (primAdd b x); b = a in b)", "x", "a b"},
		{"(let a = b; b = c; c = (primAdd a (primAdd b (primAdd c x))) in c)", "x", "a b c"},
		{"(let a = b; b = a; c = x in a)", "", "x a b c"},
		{"(let a = b; b = (primSeq a c); c = x in a)", "x", "a b c"},
		// One that binds the name.
		{"(let x = 1 in x)", "", "x y"},
		{"(let x = y in x)", "y", "x"},
		{"(let x = x in x)", "", "x"},
		{"(let x = 1 in (primError 2))", "y z", "x"},
		{"(let x = (primError 1) in x)", "y z", "x"},
		{"(let y = 1; x = 2 in (primError x))", "z", "x y"},
		{"(let y = x; x = 1 in y)", "", "x y"},
		{"(let y = (let x = 1 in x) in y)", "", "x y"},
		{"(let y = (let x = 1 in (primError 1)) in y)", "z", "x y"},
		{"(let y = 1 in (let x = y in x))", "", "x y"},
		{"(let y = x in (let x = y in x))", "x", "y"},
		{"(let x = (let y = x in y) in (primSeq x z))", "z", "x y"},
		// A name's kid that is strict, and is not asked for.
		{"(let y = x in 1)", "", "x y"},
		{"(let y = x in (C y))", "", "x y"},
		{`(let y = x in (\z -> y))`, "", "x y"},
		{"(let y = x in (f y))", "f", "x y"},
		{"(let y = (primError 1) in 1)", "", "x y"},
		{"(let y = x in (let y = 1 in y))", "", "x y"},
		{`(let y = x in (let z = (\w -> y) in z))`, "", "x y z"},
		{"(let a = b; b = x in (C a))", "", "x a b"},
		{"(let a = (C b); b = x in a)", "", "x a b"},
		{"(let a = (f b); b = x in a)", "f", "x a b"},
		{"(let y = (C x) in y)", "", "x y"},
		{`(let y = (\z -> x) in (y 1))`, "", "x y"},
	})
}

func TestStrictCases(t *testing.T) {
	checkStrictRows(t, []strictRow{
		// By the first kid.
		{"(case x of { A -> 1 })", "x", "y"},
		{"(case x of { _ -> 1 })", "x", "y"},
		{"(case x of { A -> 1; B -> y; _ -> z })", "x", "y z"},
		{"(case (x 1) of v { _ -> v })", "x", "v"},
		{"(case x of x { A -> 1 })", "x", "y"},
		{"(case x of x { A x -> x; _ -> x })", "x", "y"},
		{"(case (primError 1) of x { A x -> 1; _ -> 2 })", "x y z", ""},
		// By all that it may go on with.
		{"(case 1 of { A -> x; B -> x; _ -> x })", "x", "y"},
		{"(case 1 of { A -> x; B -> (primAdd 1 x); _ -> (x 2) })", "x", "y"},
		{"(case 1 of v { A a -> x; B b c -> x; _ -> x })", "x", "v a b c"},
		{"(case 1 of { A -> (primAdd x y); _ -> (primAdd y z) })", "y", "x z"},
		{"(case 1 of { A -> x; _ -> (primError 2) })", "x", "y"},
		{"(case 1 of { A -> (primError 2); _ -> x })", "x", "y"},
		{"(case 1 of { A -> (primError 2); _ -> (primError 3) })", "x y z", ""},
		// By alternatives without a default, and by a default without alternatives.
		{"(case 1 of { A -> x })", "x", "y"},
		{"(case 1 of { A -> x; B -> x })", "x", "y"},
		{"(case y of { A -> x; B -> (primError 1); C -> x })", "x y", "z"},
		{"(case 1 of { A -> (primError 1) })", "x y", ""},
		{"(case 1 of { _ -> x })", "x", "y"},
		{"(case 1 of v { _ -> x })", "x", "v"},
		{"(case 1 of { _ -> (primError 1) })", "x y", ""},
		// One that is not.
		{"(case 1 of { A -> x; _ -> 2 })", "", "x y"},
		{"(case 1 of { A -> 2; _ -> x })", "", "x y"},
		{"(case 1 of { A -> x; B -> 2; _ -> x })", "", "x y"},
		{"(case 1 of { A -> 2; B -> x; C -> x })", "", "x y"},
		{"(case 1 of { A -> x; B -> x; C -> y })", "", "x y"},
		{"(case 1 of { A -> x; B -> y })", "", "x y"},
		{"(case 1 of { A -> (C x); _ -> x })", "", "x"},
		{"(case 1 of { _ -> y })", "y", "x"},
		{"(case 1 of { A -> (primError 1); _ -> 2 })", "", "x y"},
		// One of whose alternatives binds it.
		{"(case 1 of { A x -> x })", "", "x"},
		{"(case 1 of { A x -> x; _ -> x })", "", "x"},
		{"(case 1 of { A x -> 2; _ -> x })", "", "x"},
		{"(case 1 of { A -> x; B y x -> x; _ -> x })", "", "x y"},
		{"(case 1 of { A x -> (primError 2); _ -> x })", "", "x y"},
		{"(case 1 of { A x -> (primError 2); _ -> (primError 3) })", "y z", "x"},
		{"(case 1 of { A x -> y; B y -> y; _ -> y })", "", "x y"},
		{"(case 1 of { A x -> y; B -> y; _ -> y })", "y", "x"},
		// One that binds it as its own name.
		{"(case 1 of x { A -> x })", "", "x"},
		{"(case 1 of x { A -> x; B -> x })", "", "x"},
		{"(case 1 of x { A -> (primError 1) })", "y", "x"},
		{"(case 1 of x { _ -> x })", "", "x"},
		{"(case 1 of x { _ -> (primError 1) })", "y", "x"},
		{"(case 1 of x { A -> x; _ -> x })", "", "x"},
		{"(case 1 of x { A x -> x; _ -> x })", "", "x"},
		{"(case 1 of x { A -> (primError 1); _ -> (primError 2) })", "y", "x"},
		{"(case y of x { A -> (primAdd x y); _ -> x })", "y", "x"},
		{"(case 1 of x { A -> (primAdd x y); _ -> (primSeq y x) })", "y", "x"},
	})
}

// Kinds in each other.
func TestStrictTermsInEachOther(t *testing.T) {
	checkStrictRows(t, []strictRow{
		{"(let y = (case 1 of { A -> x; _ -> (primError 1) }) in (primAdd 1 (y 2)))", "x", "y z"},
		{"(case (let y = x in y) of y { A -> 1 })", "x", "y"},
		{"(case 1 of { A y -> (let z = x in z); _ -> (case x of { B -> 1 }) })", "x", "y z"},
		{"(case 1 of { A y -> (let z = y in z); _ -> y })", "", "y z x"},
		{"(let f = (\\a -> (a x)) in (f f))", "", "x f a"},
		{"(let a = (let b = c in b); c = (let d = x in (primSeq d 1)) in (primShow a))", "x", "a b c d"},
		{"(let a = (let a = x in a) in a)", "x", "a"},
		{"(let a = (let x = a in x) in x)", "x", "a"},
		{"(primSeq (case y of y { _ -> 1 }) (let z = 1 in (x z)))", "x y", "z"},
		{"(case (case x of { A -> 1; _ -> (primError 1) }) of x { A -> 1; _ -> x })", "x", "y"},
		{"(case 1 of v { A a -> (case 2 of w { B b -> (primAdd x b) }); _ -> (let v = x in v) })", "x", "v a b w"},
		{"((case 1 of { A -> x; _ -> (let g = x in g) }) y)", "x", "y g"},
	})
}

func TestStrictInTheEmptyName(t *testing.T) {
	for text, want := range map[string]bool{
		"x": false, "1": false, "'c'": false, `"t"`: false, "C": false, "(f x)": false, `(\x -> x)`: false,
		"(primError 1)": true, "(primAdd 1 (primError 1))": true, "((primError 1) x)": true,
		"(let x = 1 in (primError 1))": true, "(let x = 1 in x)": false,
		"(case x of { _ -> 1 })": false, "(case x of { A -> 1 })": false, "(case x of { _ -> (primError 1) })": true,
		"(case x of v { _ -> (primError 1) })": true, "(case x of { A a -> (primError 1) })": true, "(case x of { A -> (primError 1); _ -> 1 })": false,
	} {
		if got := impl.StrictIn(readCore(text), ""); got != want {
			t.Errorf("%s is strict in the empty name: %v", text, got)
		}
	}
}

// Terms with a fault are strict in nothing, wherever the fault stands.
func TestStrictInFaultyTerms(t *testing.T) {
	x, failing := coreVar("x"), corePrim("primError", coreInt(1))
	for _, c := range []impl.Core{
		{}, coreVar(""), {Kind: 11, Name: "x"}, {Kind: -1}, {Kind: impl.CVar, Name: "x", Kids: []impl.Core{x}}, {Kind: impl.CVar, Name: "x", Big: impl.BigOf(1)},
		{Kind: impl.CApp, Kids: []impl.Core{x}}, {Kind: impl.CApp, Name: "f", Kids: []impl.Core{x, x}},
		{Kind: impl.CPrim, Name: "primError"}, corePrim("primError", x, x), corePrim("primAdd", x), corePrim("prim", x), corePrim("", x),
		{Kind: impl.CLet, Kids: []impl.Core{x}}, coreLet("y", x), coreLet("y y", x, x, x), {Kind: impl.CLet, Names: []string{""}, Kids: []impl.Core{x, x}},
		coreCase("", []impl.Core{x}), coreCase("", []impl.Core{x, x, x}), coreCase("", nil, coreAlt("A", x)), coreCase("", []impl.Core{x, x}, coreAlt("A", x), coreAlt("A", x)), coreCase("", []impl.Core{x, x}, coreAlt("A y y", x)),
		coreApp(x, coreVar("")), corePrim("primError", coreVar("")), corePrim("primAdd", x, coreApp(x)), coreLet("y", impl.Core{Kind: impl.CInt, Big: minusOf()}, x),
		coreCase("", []impl.Core{x}, coreAlt("A", impl.Core{})), coreApp(failing, coreLam("", x)), coreApp(x, coreChar("")), coreApp(x, coreChar("ab")), coreApp(x, coreString("")),
	} {
		for _, name := range []string{"x", "y", ""} {
			if impl.CoreFault(c) == 0 || impl.StrictIn(c, name) {
				t.Errorf("%s is strict in %q", coreText(c), name)
			}
		}
	}
}

// Each field of strict terms, changed so that most have a fault.
func TestStrictInSpoiltTerms(t *testing.T) {
	strict := []string{"x", "(x y)", "(primAdd 1 x)", "(primError y)", "(let y = x in y)", "(let y = z; z = x in y)", "(case x of v { A a -> 1; _ -> 2 })", "(case 1 of { A a -> x; B -> x; _ -> (primError a) })", "(case 1 of { _ -> x })", "(case 1 of { A -> x })"}
	faulty, good := 0, 0
	for _, text := range strict {
		c := readCore(text)
		if checkStrict(t, c, "x") != 1 {
			t.Errorf("%s is not strict", text)
		}
		for i := range coreParts(&c) {
			for _, change := range oneFieldChanges() {
				own := cloneCore(c)
				change.turn(coreParts(&own)[i])
				if checkStrict(t, own, "x", "y", "z", "") == 0 && coreFaultSlowly(own) != 0 {
					faulty++
				} else {
					good++
				}
			}
		}
	}
	if faulty < 300 || good < 50 {
		t.Errorf("%d are faulty, %d are not", faulty, good)
	}
}

// Names are held against each other as bytes.
func TestStrictInOddNames(t *testing.T) {
	names := []string{" ", "\x00", "é", "e\u0301", "\xff", "\xfe", "a b", "'", "primError", "X", "1", "->", strings.Repeat("n", 1<<16), strings.Repeat("n", 1<<16) + "n"}
	for i, name := range names {
		terms := []impl.Core{coreVar(name), coreApp(coreVar(name), coreInt(1)), {Kind: impl.CLet, Names: []string{"y"}, Kids: []impl.Core{coreVar(name), coreVar("y")}}}
		bound := []impl.Core{{Kind: impl.CLet, Names: []string{name}, Kids: []impl.Core{coreInt(1), corePrim("primError", coreInt(1))}}, coreCase(name, []impl.Core{coreInt(1), coreVar(name)}), coreCase("", []impl.Core{coreInt(1)}, impl.CoreAlt{Con: "A", Names: []string{name}, Body: coreVar(name)})}
		for at, other := range names {
			for _, c := range terms {
				if impl.StrictIn(c, other) != (i == at) {
					t.Errorf("%.40q in %.40q", other, name)
				}
			}
			for k, c := range bound {
				if impl.StrictIn(c, other) != (k == 0 && i != at) {
					t.Errorf("%.40q where %.40q is bound, %d", other, name, k)
				}
			}
		}
	}
}
