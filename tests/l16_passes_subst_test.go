package tests

import (
	"strings"
	"testing"

	"loop.example/g00017/impl"
)

// A substRow has a term, a name, the term for it, and what comes out: "-" if it stays.
type substRow struct{ term, name, by, want string }

func checkSubstRows(t *testing.T, rows []substRow) {
	t.Helper()
	for _, row := range rows {
		c, by := readCore(row.term), readCore(row.by)
		want := row.want
		if want == "-" {
			want = coreWritten(c)
		}
		if got := impl.FormatCore(impl.Subst(c, row.name, by)); got != want {
			t.Errorf("%s with %s as %s is\n%s, not\n%s", row.term, row.name, row.by, got, want)
		}
		if got := coreWritten(substSlowly(c, row.name, by)); got != want {
			t.Errorf("the second reading has %s", got)
		}
	}
}

func TestSubstInEachKind(t *testing.T) {
	checkSubstRows(t, []substRow{
		{"x", "x", "(f y)", "(f y)"},
		{"x", "y", "(f y)", "-"},
		{"x", "x", "12", "12"},
		{"12", "x", "y", "-"},
		{"'x'", "x", "y", "-"},
		{`"x"`, "x", "y", "-"},
		{"X", "X", "y", "-"},
		{"(X a)", "X", "y", "-"},
		{"(C x y x)", "x", "(D x)", "(C (D x) y (D x))"},
		{"(C y)", "x", "(D x)", "-"},
		{"(x y x)", "x", "(f z)", "((f z) y (f z))"},
		{"(f y)", "x", "(f z)", "-"},
		{"(primAdd x 1)", "x", `"t"`, `(primAdd "t" 1)`},
		{"(primError x)", "x", "(primShow y)", "(primError (primShow y))"},
		{"(primAdd y 1)", "primAdd", "z", "-"},
		{`(\y -> x)`, "x", "(f z)", `(\y -> (f z))`},
		{`(\y -> y)`, "x", "(f z)", "-"},
		{"(let y = x; z = y in (x z))", "x", "(f u)", "(let y = (f u); z = y in ((f u) z))"},
		{"(let y = u; z = y in z)", "x", "(f u)", "-"},
		{"(case x of { A -> x; B b -> (x b); _ -> x })", "x", "(f u)", "(case (f u) of { A -> (f u); B b -> ((f u) b); _ -> (f u) })"},
		{"(case x of v { A -> y })", "x", "(f u)", "(case (f u) of v { A -> y })"},
		{"(case y of v { A -> v; B -> x })", "x", "(f u)", "(case y of v { A -> v; B -> (f u) })"},
		{"(case y of { _ -> x })", "x", "(f u)", "(case y of { _ -> (f u) })"},
		{"(case y of v { A a -> a })", "x", "(f u)", "-"},
	})
}

func TestSubstOfBoundNames(t *testing.T) {
	checkSubstRows(t, []substRow{
		{`(\x -> x)`, "x", "z", "-"},
		{`(\y x -> (x y))`, "x", "y", "-"},
		{`(f x (\x -> x) x)`, "x", "z", `(f z (\x -> x) z)`},
		{"(let x = x in x)", "x", "z", "-"},
		{"(let y = x; x = y in (x y))", "x", "y", "-"},
		{"(C (let x = x in x) x)", "x", "z", "(C (let x = x in x) z)"},
		{"(case x of { A x -> x; B y -> x; _ -> x })", "x", "z", "(case z of { A x -> x; B y -> z; _ -> z })"},
		{"(case x of { A y x -> (x y) })", "x", "y", "(case y of { A y x -> (x y) })"},
		{"(case x of x { A -> x; B y -> x; _ -> x })", "x", "z", "(case z of x { A -> x; B y -> x; _ -> x })"},
		{"(case x of x { A x -> x; _ -> x })", "x", "z", "(case z of x { A x -> x; _ -> x })"},
		{"(case y of x { A x -> x; B y -> (x y) })", "x", "y", "-"},
		{"(case (case x of x { _ -> x }) of y { A x -> x; _ -> x })", "x", "y", "(case (case y of x { _ -> x }) of y' { A x -> x; _ -> y })"},
		{"(case x of y { A y -> y; _ -> y })", "x", "z", "(case z of y { A y -> y; _ -> y })"},
	})
}

func TestSubstOfANameByItself(t *testing.T) {
	t.Parallel()
	checkSubstRows(t, []substRow{
		{"x", "x", "x", "-"},
		{`(x (\x -> x) (\y -> x))`, "x", "x", "-"},
		{"(let x = x in x)", "x", "x", "-"},
		{"(case x of x { A x -> x; _ -> x })", "x", "x", "-"},
		{"(case x of y { A y -> x; _ -> x })", "x", "x", "-"},
	})
	m := newPassMaker(7)
	for i := range 1000 {
		c := m.term(1 + i%6)
		for _, name := range strings.Fields(m.names + " z") {
			if got := impl.Subst(c, name, coreVar(name)); coreText(got) != coreText(c) {
				t.Errorf("%s with %s as itself is %s", shortCore(c), name, shortCore(got))
			}
		}
		if got := impl.Subst(c, "", coreVar("a")); coreText(got) != coreText(c) {
			t.Errorf("%s with no name as a is %s", shortCore(c), shortCore(got))
		}
	}
}

func TestSubstGivesNewNames(t *testing.T) {
	checkSubstRows(t, []substRow{
		// Each of the four that bind.
		{`(\y -> (x y))`, "x", "y", `(\y' -> (y y'))`},
		{"(let y = 1 in (x y))", "x", "y", "(let y' = 1 in (y y'))"},
		{"(let y = (x y) in z)", "x", "(f y)", "(let y' = ((f y) y') in z)"},
		{"(case z of { A y -> (x y); _ -> x })", "x", "y", "(case z of { A y' -> (y y'); _ -> y })"},
		{"(case z of y { A -> (x y); B b -> y; _ -> y })", "x", "y", "(case z of y' { A -> (y y'); B b -> y'; _ -> y' })"},
		{"(case z of y { A -> y; _ -> x })", "x", "y", "(case z of y' { A -> y'; _ -> y })"},
		// Several at once, in order, and those alone that stand free.
		{`(\a b c -> (x a b c))`, "x", "(f c a)", `(\a' b c' -> ((f c a) a' b c'))`},
		{"(let a = b; b = c; c = x in (a b c))", "x", "(a c)", "(let a' = b; b = c'; c' = (a c) in (a' b c'))"},
		{"(case z of { A a b c -> (x a b c) })", "x", "(b a)", "(case z of { A a' b' c -> ((b a) a' b' c) })"},
		{"(case a of a { A a b -> (x a b); B b -> (x a); _ -> (x a b) })", "x", "(a b)", "(case a of a' { A a' b' -> ((a b) a' b'); B b' -> ((a b) a'); _ -> ((a b) a' b) })"},
		{`(\a a' -> (x a a'))`, "x", "(a a')", `(\a'' a''' -> ((a a') a'' a'''))`},
		{`(\a' a -> (x a a'))`, "x", "(a a')", `(\a'' a''' -> ((a a') a''' a''))`},
		{`(\a a' -> (x a a'))`, "x", "a", `(\a'' a' -> (a a'' a'))`},
		// The name does not stand free in their reach.
		{`(x (\y -> y))`, "x", "y", `(y (\y -> y))`},
		{"(x (let y = y in y))", "x", "y", "(y (let y = y in y))"},
		{"(case x of y { A y -> y; _ -> y })", "x", "y", "(case y of y { A y -> y; _ -> y })"},
		{"(case x of { A y -> y; B -> x })", "x", "y", "(case y of { A y -> y; B -> y })"},
		{`(x (\y -> (\x -> (x y))))`, "x", "y", `(y (\y -> (\x -> (x y))))`},
		{`(x (\y x -> (x y)))`, "x", "y", `(y (\y x -> (x y)))`},
		{"(x (let y = x; x = y in y))", "x", "y", "(y (let y = x; x = y in y))"},
		{"(case x of y { A x -> (x y); B -> y })", "x", "y", "(case y of y { A x -> (x y); B -> y })"},
	})
}

func TestSubstAvoidsNames(t *testing.T) {
	checkSubstRows(t, []substRow{
		// The fresh one is bound further in, stands free, or is the name itself.
		{`(\y -> (\y' -> (x y y')))`, "x", "y", `(\y'' -> (\y' -> (y y'' y')))`},
		{`(\y -> (x y y'))`, "x", "y", `(\y'' -> (y y'' y'))`},
		{`(\y -> (y (\y' -> x)))`, "x", "y", `(\y'' -> (y'' (\y' -> y)))`},
		{`(\y -> (x y))`, "x", "(y y')", `(\y'' -> ((y y') y''))`},
		{`(\y -> (x y))`, "x", `(y (\y' -> y'))`, `(\y'' -> ((y (\y' -> y')) y''))`},
		{`(\y -> (y' y))`, "y'", "y", `(\y'' -> (y y''))`},
		{"(let y = 1; y' = 2 in (x y y'))", "x", "y", "(let y'' = 1; y' = 2 in (y y'' y'))"},
		{"(let y = (case y of y' { _ -> 1 }) in (x y))", "x", "y", "(let y'' = (case y'' of y' { _ -> 1 }) in (y y''))"},
		{"(case z of { A y y' -> (x y y') })", "x", "y", "(case z of { A y'' y' -> (y y'' y') })"},
		{"(case z of { A y -> (x y y'); _ -> y'' })", "x", "y", "(case z of { A y'' -> (y y'' y'); _ -> y'' })"},
		{"(case y' of y { A -> (x y) })", "x", "y", "(case y' of y'' { A -> (y y'') })"},
		{"(case z of y { A y' -> (x y y'); _ -> 1 })", "x", "y", "(case z of y'' { A y' -> (y y'' y'); _ -> 1 })"},
		// What is beside does not count.
		{`(y' (\y -> (x y)))`, "x", "y", `(y' (\y' -> (y y')))`},
		{"(case y' of { A y -> (x y); B y' -> x })", "x", "y", "(case y' of { A y' -> (y y'); B y' -> y })"},
		// From outside in: what is further out has its new name by then, and what is further in not yet.
		{`(\y -> (\y -> (x y)))`, "x", "y", `(\y' -> (\y' -> (y y')))`},
		{`(\y -> (y (\y -> (x y))))`, "x", "y", `(\y' -> (y' (\y' -> (y y'))))`},
		{`(\y -> (\z -> (x y z)))`, "x", "(y z)", `(\y' -> (\z' -> ((y z) y' z')))`},
		{`(\z -> (\z' -> (x z z')))`, "x", "(z z')", `(\z'' -> (\z''' -> ((z z') z'' z''')))`},
		{`(\y' -> (\y -> (x y y')))`, "x", "(y y')", `(\y'' -> (\y''' -> ((y y') y''' y'')))`},
		{`(case (\y -> (x y)) of y { _ -> (x y) })`, "x", "y", `(case (\y' -> (y y')) of y' { _ -> (y y') })`},
		{"(case z of y { A y -> (x y); _ -> y })", "x", "y", "(case z of y' { A y' -> (y y'); _ -> y' })"},
		{"(case z of y { A y -> (x y); B -> (x y) })", "x", "y", "(case z of y' { A y' -> (y y'); B -> (y y') })"},
	})
}

func TestSubstOfFaultyTerms(t *testing.T) {
	t.Parallel()
	m, spoiler := newPassMaker(8), newCoreMaker(18)
	faulty := [2]int{}
	for i := range 2000 {
		c, by := m.term(1+i%4), m.term(i%3)
		if i%2 == 0 {
			c = spoiler.spoilt(c)
		} else {
			by = spoiler.spoilt(by)
		}
		if got, want := impl.Subst(c, "a", by), substSlowly(c, "a", by); coreText(got) != coreText(want) {
			t.Errorf("%s with a as %s is %s", coreText(c), coreText(by), coreText(got))
		}
		if coreFaultSlowly(c) != 0 {
			faulty[0]++
		}
		if coreFaultSlowly(by) != 0 {
			faulty[1]++
		}
	}
	if faulty[0] < 300 || faulty[1] < 300 {
		t.Error("few terms had faults:", faulty)
	}
	large := coreCon("C", make([]impl.Core, 20000)...)
	deep := raised(coreVar("a"), 1000, coreLevels()["function"])
	for _, c := range []impl.Core{{}, large, deep} {
		if got := impl.Subst(coreVar("a"), "a", c); coreText(got) != coreText(coreVar("a")) {
			t.Error("a faulty term came in")
		}
		if got := impl.Subst(c, "a", coreInt(1)); !impl.SameCore(got, c) {
			t.Error("a faulty term was changed")
		}
	}
}

func TestSubstJustWithinMostTerms(t *testing.T) {
	t.Parallel()
	// So many terms and names come out with places for a term of that size.
	for _, row := range []struct{ places, size, others int }{{1, 19999, 0}, {2, 9999, 1}, {100, 199, 99}, {19999, 1, 0}, {1, 10000, 9999}, {4999, 4, 3}} {
		for _, more := range []int{0, 1} {
			kids := make([]impl.Core, 0, row.places+row.others+more)
			for range row.places {
				kids = append(kids, coreVar("x"))
			}
			for range row.others + more {
				kids = append(kids, coreInt(7))
			}
			c := coreCon("C", kids...)
			by := coreInt(1)
			if row.size > 1 {
				by = coreLam("a", coreCon("D"))
				for range row.size - 3 {
					by.Kids[0].Kids = append(by.Kids[0].Kids, coreVar("a"))
				}
			}
			got := impl.Subst(c, "x", by)
			if terms, names, _ := coreMeasures(got); more == 0 && (terms+names != 20000 || row.size > 1 && len(freeWithin(got)) > 0) {
				t.Errorf("%v gives %d terms and %d names", row, terms, names)
			}
			if more == 1 && row.size > 1 && coreText(got) != coreText(c) {
				t.Errorf("%v with one more is changed", row)
			}
		}
	}
}

func TestSubstOfVeryManyPlaces(t *testing.T) {
	t.Parallel()
	kids := make([]impl.Core, 19999)
	for i := range kids {
		kids[i] = coreVar("x")
	}
	c := coreCon("C", kids...)
	if got := impl.Subst(c, "x", c); coreText(got) != coreText(c) {
		t.Error("a term of very many came out")
	}
	by := raised(coreVar("x"), 999, coreLevels()["function"])
	if got := impl.Subst(by, "x", by); coreText(got) != coreText(by) {
		t.Error("a term that is too deep came out")
	}
}

func TestSubstJustWithinMostLevels(t *testing.T) {
	t.Parallel()
	for what, frame := range coreLevels() {
		for _, levels := range []int{0, 1, 500, 998, 999} {
			c := raised(coreVar("y"), levels, frame)
			for more := range 2 {
				by := raised(coreVar("u"), 999-levels+more, coreLevels()["function"])
				got := impl.Subst(c, "y", by)
				want := c
				if more == 0 {
					want = raised(by, levels, frame)
				}
				if impl.CoreFault(by) == 0 && !impl.SameCore(got, want) {
					t.Errorf("%s of %d levels with %d levels in it: %d of %d", what, levels, 1000-levels+more, coreDepth(got), coreDepth(c))
				}
			}
		}
	}
}

func coreDepth(c impl.Core) int {
	_, _, levels := coreMeasures(c)
	return levels
}

func TestLetAndSubstMeanTheSame(t *testing.T) {
	t.Parallel()
	m := newMeantMaker(160)
	told := map[int64]int{}
	renamed := 0
	for i := range 8000 {
		// Names around stand free in the term, and are bound again in what it comes into.
		around, kinds := m.names(2), []string{m.word(meantKinds), m.word("n s f")}
		name, kind := m.word("a b c x y"), m.word(meantKinds)
		kids := []impl.Core{m.term(kinds[0], 1), m.term(kinds[1], 1)}
		var by, last impl.Core
		m.within(around, kinds, func() impl.Core {
			by = m.term(kind, 1+i%3)
			last = m.within([]string{name}, []string{kind}, func() impl.Core { return m.term("s", 2+i%4) })
			return by
		})
		if countOf(by, name) > 0 {
			continue
		}
		put := impl.Subst(last, name, by)
		if coreText(put) != coreText(last) && strings.Contains(impl.FormatCore(put), "'") {
			renamed++
		}
		whole := func(c impl.Core) impl.Core {
			return impl.Core{Kind: impl.CLet, Names: around, Kids: append(kids[:2:2], c)}
		}
		let, other := whole(coreLet(name, by, last)), whole(put)
		a, b := impl.Meaning(let, 1, "", 200000), impl.Meaning(other, 1, "", 200000)
		told[a.End]++
		if !impl.Stands(a, b) || !impl.Stands(b, a) {
			t.Errorf("%s tells %q (end %d), but\n%s tells %q (end %d)", shortCore(let), a.Out, a.End, shortCore(other), b.Out, b.End)
		}
	}
	if told[impl.EndDone] < 1000 || told[impl.EndError] < 100 || renamed < 100 {
		t.Errorf("%d terms were done, %d came to an error, %d had new names", told[impl.EndDone], told[impl.EndError], renamed)
	}
}
