package tests

import (
	"slices"
	"strings"
	"testing"

	"loop.example/g00017/impl"
)

// A longStrict is a great term, with names in which it is strict and others.
type longStrict struct {
	what      string
	c         impl.Core
	in, notIn string
}

func checkLongStrict(t *testing.T, rows []longStrict) {
	t.Helper()
	for _, row := range rows {
		if fault := impl.CoreFault(row.c); fault != 0 {
			t.Errorf("%s: the fault %d", row.what, fault)
		}
		for _, name := range strings.Fields(row.in) {
			if !impl.StrictIn(row.c, name) {
				t.Errorf("%s: not strict in %s", row.what, name)
			}
		}
		for _, name := range strings.Fields(row.notIn) {
			if impl.StrictIn(row.c, name) {
				t.Errorf("%s: strict in %s", row.what, name)
			}
		}
	}
}

// ringOf has a CLet of names n0, n1, .., each of which asks for the next one, and the last one for the first; but for those with kids of their own.
func ringOf(count int, own map[int]impl.Core) impl.Core {
	return manyLet(namesUpTo(count), func(i int) impl.Core {
		if kid, found := own[i]; found {
			return kid
		}
		return coreVar(nameAt("n", (i+1)%count))
	}, coreVar("n0"))
}

// backwards has the names of a CLet in the other order, with their kids.
func backwards(c impl.Core) impl.Core {
	last := len(c.Names)
	own := impl.Core{Kind: impl.CLet, Names: slices.Clone(c.Names), Kids: slices.Clone(c.Kids)}
	slices.Reverse(own.Names)
	slices.Reverse(own.Kids[:last])
	return own
}

func TestStrictLetsOfManyNames(t *testing.T) {
	t.Parallel()
	x, y := coreVar("x"), coreVar("y")
	failing := corePrim("primError", coreInt(1))
	ring := ringOf(9990, nil)
	asking := ringOf(6000, map[int]impl.Core{5000: corePrim("primAdd", x, coreVar("n5001"))})
	ending := ringOf(9990, map[int]impl.Core{5000: x, 7000: y})
	lost := ringOf(9990, map[int]impl.Core{9989: failing})
	all := manyLet(namesUpTo(4900), func(i int) impl.Core { return corePrim("primAdd", coreVar(nameAt("n", (i*3+1)%4900)), x) }, coreVar("n7"))
	none := manyLet(namesUpTo(4900), func(i int) impl.Core { return corePrim("primAdd", x, coreVar(nameAt("n", i/2))) }, coreInt(1))
	errors := manyLet(namesUpTo(6600), always(failing), failing)
	wide := manyLet(namesUpTo(50), func(i int) impl.Core { return sumOf(numberedVars("v", 190)) }, coreVar("n0"))
	fan := manyLet(namesUpTo(5000), func(i int) impl.Core { return coreVar(nameAt("v", i)) }, sumOf(numberedVars("n", 4900)))
	checkLongStrict(t, []longStrict{
		{"a ring", ring, "", "x n0 n1 n9989"},
		{"a ring backwards", backwards(ring), "", "x n0 n1 n9989"},
		{"a ring that asks for x", asking, "x", "y n0 n5000 n5999"},
		{"that backwards", backwards(asking), "x", "y n0 n5000 n5999"},
		{"a way to x", ending, "x", "y n0 n5000 n7000"},
		{"that backwards", backwards(ending), "x", "y n0 n5000 n7000"},
		{"a way to an error", lost, "x y", "n0 n5000 n9989"},
		{"that backwards", backwards(lost), "x y", "n0 n5000 n9989"},
		{"each asks for two", all, "x", "y n0 n7"},
		{"none is asked for", none, "", "x n0 n1"},
		{"errors", errors, "x y", "n0 n6599"},
		{"one of many with many names", wide, "v0 v189", "x n0 n1"},
		{"all by one", fan, "v0 v4899", "v4900 v4999 x n0"},
	})
}

func TestStrictTermsOfManyParts(t *testing.T) {
	t.Parallel()
	x, failing := coreVar("x"), corePrim("primError", coreInt(1))
	vars := numberedVars("v", 9900)
	alike, other, bound := coreCase("v", []impl.Core{coreInt(1)}), coreCase("v", []impl.Core{coreInt(1)}), coreCase("v", []impl.Core{coreInt(1), x})
	for i := range 9000 {
		body := x
		if i%3 == 1 {
			body = failing
		}
		if i < 6000 {
			alike.Alts = append(alike.Alts, coreAlt(nameAt("A", i), body))
			bound.Alts = append(bound.Alts, coreAlt(nameAt("A", i), body))
		}
		if i == 5000 {
			body = coreInt(2)
			bound.Alts[i] = coreAlt(nameAt("A", i)+" x", failing)
		}
		if i < 6000 {
			other.Alts = append(other.Alts, coreAlt(nameAt("A", i), body))
		}
	}
	sums := coreCase("", []impl.Core{coreInt(1), sumOf(append(slices.Clone(vars[300:800]), x))})
	for i := range 18 {
		sums.Alts = append(sums.Alts, coreAlt(nameAt("A", i), sumOf(append(slices.Clone(vars[i:500+i]), x))))
	}
	rest := corePrim("primAdd", sumOf(vars[:9000]), impl.Core{Kind: impl.CLet, Names: namesUpTo(900), Kids: append(slices.Repeat([]impl.Core{coreInt(1)}, 900), x)})
	checkLongStrict(t, []longStrict{
		{"a sum", sumOf(vars), "v0 v5000 v9899", "x v9900"},
		{"a sum and a let", rest, "x v0 v8999", "n0 v9000"},
		{"alternatives", alike, "x", "v y"},
		{"one that is not", other, "", "x v y"},
		{"one that binds it", bound, "", "x v y"},
		{"alternatives with many names", sums, "x v300 v499", "v0 v17 v299 v500 v800"},
		{"many arguments", coreApp(append([]impl.Core{x}, vars...)...), "x", "v0 v9899"},
		{"many fields", coreCon("C", vars...), "", "v0 v9899"},
	})
}

// Each kind of level, as deep as a term may be, and one deeper.
func TestStrictTermsOfManyLevels(t *testing.T) {
	t.Parallel()
	isHandedOn := map[string]bool{"function": true, "let's body": true, "looked at": true, "default": true, "alternative": true, "prim": true, "prim's second": true}
	y, failing := coreVar("y"), corePrim("primError", coreInt(1))
	for what, frame := range coreLevels() {
		want := isHandedOn[what]
		deepest := raised(y, impl.MaxCoreDeep-1, frame)
		if got := impl.StrictIn(deepest, "y"); got != want {
			t.Errorf("%s: %v", what, got)
		}
		lost := raised(failing, impl.MaxCoreDeep-2, frame)
		if got := impl.StrictIn(lost, "anything"); got != want {
			t.Errorf("%s around an error: %v", what, got)
		}
		for _, c := range []impl.Core{frame(deepest), frame(lost)} {
			if impl.StrictIn(c, "y") || impl.StrictIn(c, "x") || impl.StrictIn(c, "anything") {
				t.Errorf("%s: strict one level deeper", what)
			}
		}
	}
}

// Each form with as many terms and names as there may be, and one more.
func TestStrictTermsOfTheGreatestSize(t *testing.T) {
	t.Parallel()
	isLazy := map[string]bool{"kids": true, "names of a CLam": true, "cases with names, which do not count": true}
	for what, form := range coreForms() {
		if got := impl.StrictIn(form(impl.MaxCore), "x"); got == isLazy[what] {
			t.Errorf("%s: %v", what, got)
		}
		if impl.StrictIn(form(impl.MaxCore), "nowhere") || impl.StrictIn(form(impl.MaxCore+1), "x") {
			t.Errorf("%s: strict", what)
		}
	}
	long := strings.Repeat("x", impl.MaxSource)
	if !impl.StrictIn(corePrim("primError", coreString(long)), "x") || impl.StrictIn(corePrim("primError", coreString(long+"x")), "x") {
		t.Error("an error with a long text")
	}
}

// Lets and cases in each other, with many names that go up from level to level.
func TestStrictTermsOfManyLevelsAndNames(t *testing.T) {
	t.Parallel()
	show := func(i int) impl.Core { return corePrim("primShow", coreVar(nameAt("x", i+1))) }
	sum := sumOf(numberedVars("x", 8000))
	kids := raised(sum, 490, func(c impl.Core) impl.Core {
		return coreLet("q", corePrim("primShow", c), corePrim("primShow", coreVar("q")))
	})
	choose := raised(sumOf(numberedVars("x", 4000)), 700, func(c impl.Core) impl.Core {
		return coreCase("", []impl.Core{coreInt(1), sumOf(numberedVars("x", 4))}, coreAlt("A", c))
	})
	chained := framed(900, coreVar("z"), func(i int, c impl.Core) impl.Core { return corePrim("primAdd", coreVar(nameAt("x", i)), c) })
	bothWays := framed(300, coreVar("z"), func(i int, c impl.Core) impl.Core {
		name := nameAt("x", i)
		return coreLet(name+" y", coreCase("", []impl.Core{coreVar("w"), coreVar(name)}, coreAlt("A", coreVar("y"))), coreVar(nameAt("x", i+1)), corePrim("primAdd", coreVar(name), c))
	})
	checkLongStrict(t, []longStrict{
		{"lets around a sum", lets(900, always(coreInt(1)), sum), "x900 x7999", "x0 x899 x8000"},
		{"lets that ask on", lets(900, show, sumOf(numberedVars("x", 7500))), "x1 x899 x900 x7499", "x0 x7500"},
		{"kids in each other", kids, "x0 x7999", "q x8000"},
		{"cases in each other", choose, "x0 x3", "x4 x3999"},
		{"a chain", chained, "x0 x899 z", "x900"},
		{"lets that ask for what is bound further in", bothWays, "w z", "y x0 x299 x300"},
	})
}

// PassStrict behind changes that let more be asked for, beside great lets.
func TestLongStrictPassesThatAskForMore(t *testing.T) {
	t.Parallel()
	x, failing := coreVar("x"), corePrim("primError", coreInt(1))
	touched, made := coreLet("x", failing, x), coreCase("x", []impl.Core{failing, x})
	ring := func(last impl.Core) impl.Core {
		c := ringOf(3000, map[int]impl.Core{7: x})
		c.Names, c.Kids = append(c.Names, "x"), append(c.Kids[:3000], coreApp(coreVar("f"), coreInt(1)), last)
		return c
	}
	around := func(c impl.Core) map[string]impl.Core {
		many := slices.Repeat([]impl.Core{c}, 1900)
		return map[string]impl.Core{
			"fields": coreCon("C", many...),
			"sum":    sumOf(many),
			"case":   coreCase("", []impl.Core{coreVar("q"), failing}, coreAlt("A", sumOf(many))),
			"lazy":   coreCase("", []impl.Core{coreVar("q"), coreInt(1)}, coreAlt("A", sumOf(many))),
			"lambda": coreLam("q", sumOf(many)),
		}
	}
	var rows []longPass
	want := around(made)
	for what, c := range around(touched) {
		rows = append(rows, longPass{what, ring(c), []int64{6}, ring(want[what])})
	}
	named := func(c func(name string) impl.Core) impl.Core {
		var list []impl.Core
		for i := range 1900 {
			list = append(list, c(nameAt("n", i)))
		}
		return manyLet(namesUpTo(1900), always(coreVar("z")), sumOf(list))
	}
	rows = append(rows, longPass{"each another name", named(func(name string) impl.Core { return coreLet(name, failing, coreVar(name)) }), []int64{6}, named(func(name string) impl.Core { return coreCase(name, []impl.Core{failing, coreVar(name)}) })})
	checkLongPasses(t, rows)
}
