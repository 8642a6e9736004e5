package tests

import (
	"slices"
	"testing"

	"loop.example/g00017/impl"
)

// severalOf has a term so many times.
func severalOf(count int, c impl.Core) impl.Core {
	return coreCon("R", slices.Repeat([]impl.Core{c}, count)...)
}

// A longPass is a great term with what passes make of it.
type longPass struct {
	name string
	c    impl.Core
	list []int64
	want impl.Core
}

func checkLongPasses(t *testing.T, rows []longPass) {
	t.Helper()
	for _, row := range rows {
		if fault := impl.CoreFault(row.c); fault != 0 {
			t.Errorf("%s has the fault %d", row.name, fault)
			continue
		}
		if got := impl.RunPasses(row.c, row.list); got.Code != 0 || !impl.SameCore(got.Core, row.want) {
			terms, names, levels := coreMeasures(got.Core)
			t.Errorf("%s: code %d, another one with %d terms, %d names, %d levels", row.name, got.Code, terms, names, levels)
		}
	}
}

// numberedVars has variables with a letter and numbers.
func numberedVars(letter string, count int) []impl.Core {
	var list []impl.Core
	for i := range count {
		list = append(list, coreVar(nameAt(letter, i)))
	}
	return list
}

// lets has lets in each other, each of a name with a number.
func lets(count int, kid func(i int) impl.Core, last impl.Core) impl.Core {
	return framed(count, last, func(i int, c impl.Core) impl.Core { return coreLet(nameAt("x", i), kid(i), c) })
}

func always(c impl.Core) func(int) impl.Core { return func(int) impl.Core { return c } }

// before has the variable ahead of one in each other.
func before(i int) impl.Core { return coreVar(nameAt("x", i-1)) }

func TestLongInlinePasses(t *testing.T) {
	t.Parallel()
	f, g := coreVar("f"), coreVar("g")
	applied := coreApp(f, g)
	dropped := func(made bool) impl.Core {
		return framed(300, coreInt(1), func(i int, c impl.Core) impl.Core {
			if made {
				return coreCon("C", c, applied)
			}
			y := coreVar(nameAt("y", i))
			return coreLet(y.Name, applied, coreLet("x", y, coreCon("C", c, y)))
		})
	}
	caught := framed(150, raised(coreCon("C", numberedVars("x", 150)...), 400, func(c impl.Core) impl.Core { return coreLam("y", c) }), func(i int, c impl.Core) impl.Core {
		return coreLet(nameAt("x", i), coreVar(quotes("y", i)), c)
	})
	var free []impl.Core
	for i := range 150 {
		free = append(free, coreVar(quotes("y", i)))
	}
	often := coreCon("C", append(numberedVars("x", 900), numberedVars("x", 900)...)...)
	checkLongPasses(t, []longPass{
		{"numbers", severalOf(6, lets(990, always(coreInt(1)), coreInt(0))), []int64{4, 4}, severalOf(6, coreInt(0))},
		{"variables", severalOf(5, lets(900, always(coreVar("y")), coreCon("C", numberedVars("x", 900)...))), []int64{4}, severalOf(5, coreCon("C", slices.Repeat([]impl.Core{coreVar("y")}, 900)...))},
		{"each in the next one", severalOf(5, lets(700, func(i int) impl.Core { return coreApp(f, before(i)) }, before(700))), []int64{4}, severalOf(5, raised(coreVar("x-1"), 700, func(c impl.Core) impl.Core { return coreApp(f, c) }))},
		{"dropped ones", severalOf(6, dropped(false)), []int64{4}, severalOf(6, dropped(true))},
		{"caught ones", severalOf(4, caught), []int64{4}, severalOf(4, raised(coreCon("C", free...), 400, func(c impl.Core) impl.Core { return coreLam(quotes("y", 150), c) }))},
		{"none", severalOf(3, lets(900, always(applied), often)), []int64{4}, severalOf(3, lets(900, always(applied), often))},
	})
}

// oneLet has a let of 6000 names, each of which stands for the next one.
func oneLet(last impl.Core) impl.Core {
	c := impl.Core{Kind: impl.CLet}
	for i := range 6000 {
		c.Names = append(c.Names, nameAt("x", i))
		c.Kids = append(c.Kids, coreVar(nameAt("x", i+1)))
	}
	c.Kids = append(c.Kids, last)
	return c
}

func TestLongDeadPasses(t *testing.T) {
	t.Parallel()
	half := oneLet(coreVar("x3000"))
	kept := impl.Core{Kind: impl.CLet, Names: half.Names[3000:], Kids: half.Kids[3000:]}
	beside := func(c func(i int) impl.Core) impl.Core {
		kids := numberedVars("x", 900)
		for i := range 4000 {
			kids = append(kids, c(i))
		}
		return lets(900, always(coreInt(1)), coreCon("C", kids...))
	}
	inEach := func(i int) impl.Core { return coreLet("d", coreVar(nameAt("x", i%900)), coreInt(0)) }
	checkLongPasses(t, []longPass{
		{"each by the next one", severalOf(6, lets(990, before, coreInt(0))), []int64{3, 3}, severalOf(6, coreInt(0))},
		{"one let", oneLet(coreVar("x0")), []int64{3}, oneLet(coreVar("x0"))},
		{"half of one let", half, []int64{3}, kept},
		{"none of one let", oneLet(coreInt(1)), []int64{3}, coreInt(1)},
		{"many in many", beside(inEach), []int64{3}, beside(always(coreInt(0)))},
	})
}

func TestLongFloatPasses(t *testing.T) {
	t.Parallel()
	f, x := coreVar("f"), coreVar("x")
	apply := func(arg impl.Core) func(impl.Core) impl.Core {
		return func(c impl.Core) impl.Core { return coreApp(c, arg) }
	}
	letOf := func(name string) func(impl.Core) impl.Core {
		return func(c impl.Core) impl.Core { return coreLet(name, coreInt(1), c) }
	}
	wide := severalOf(180, x)
	choose := func(c impl.Core) impl.Core { return coreCase("x'", []impl.Core{c, coreVar("x")}) }
	checkLongPasses(t, []longPass{
		{"lets out of each other", raised(raised(f, 70, letOf("x")), 70, apply(x)), []int64{5}, raised(raised(f, 70, apply(x)), 70, letOf("x'"))},
		{"one far out", raised(raised(f, 1, letOf("x")), 990, apply(x)), []int64{5}, raised(raised(f, 990, apply(x)), 1, letOf("x'"))},
		{"wide ones", raised(raised(f, 40, letOf("x")), 100, apply(wide)), []int64{5}, raised(raised(f, 100, apply(wide)), 40, letOf("x'"))},
		{"cases", raised(raised(f, 50, letOf("x")), 90, choose), []int64{5}, raised(raised(f, 90, choose), 50, letOf("x''"))},
		{"very often", raised(raised(f, 400, letOf("x")), 400, apply(x)), slices.Repeat([]int64{5}, 40), raised(raised(f, 400, apply(x)), 400, letOf("x'"))},
	})
}

func TestLongBetaPasses(t *testing.T) {
	t.Parallel()
	x, z := coreVar("x"), coreVar("z")
	wide := severalOf(16, x)
	left := coreApp(append([]impl.Core{raised(z, 900, lamOf("x"))}, slices.Repeat([]impl.Core{wide}, 900)...)...)
	inner := coreApp(x, coreVar("y"))
	var names []string
	for i := range 6000 {
		names = append(names, nameAt("n", i))
	}
	many := coreApp(append([]impl.Core{{Kind: impl.CLam, Names: names, Kids: []impl.Core{z}}}, slices.Repeat([]impl.Core{coreVar("n17")}, 6000)...)...)
	let := slices.Clone(names)
	let[17] = "n17'"
	checkLongPasses(t, []longPass{
		{"arguments that are left", left, []int64{1}, raised(z, 900, func(c impl.Core) impl.Core { return coreLet("x'", wide, c) })},
		{"each in the next one", severalOf(4, raised(x, 450, func(c impl.Core) impl.Core { return coreApp(coreLam("x", c), inner) })), []int64{1}, severalOf(4, framed(450, x, func(i int, c impl.Core) impl.Core {
			name, other := byTurns(i)
			return coreLet(name, coreApp(coreVar(other), coreVar("y")), c)
		}))},
		{"many names", many, []int64{1}, impl.Core{Kind: impl.CLet, Names: let, Kids: append(slices.Repeat([]impl.Core{coreVar("n17")}, 6000), z)}},
	})
}

// byTurns has the new name that each has and the one ahead, where each other one has a name that is caught.
func byTurns(i int) (name, other string) {
	if i%2 == 0 {
		return "x'", "x"
	}
	return "x", "x'"
}

// lamOf has a frame that binds a name.
func lamOf(name string) func(impl.Core) impl.Core {
	return func(c impl.Core) impl.Core { return coreLam(name, c) }
}

func TestLongKnownPasses(t *testing.T) {
	t.Parallel()
	x := coreVar("x")
	looked := func(c impl.Core) impl.Core {
		return coreCase("v", []impl.Core{coreCon("C", x, coreInt(1))}, coreAlt("C x y", coreCon("D", coreVar("v"), c)))
	}
	known := framed(300, x, func(i int, c impl.Core) impl.Core {
		name, other := byTurns(i)
		return coreLet(name+" y", coreVar(other), coreInt(1), coreLet("v", coreCon("C", coreVar(name), coreVar("y")), coreCon("D", coreVar("v"), c)))
	})
	next := func(c impl.Core) impl.Core { return corePrim("primAdd", c, coreInt(1)) }
	inTurn := func(c impl.Core) impl.Core {
		return coreCase("", []impl.Core{corePrim("primEq", coreInt(1), coreInt(2)), coreInt(7)}, coreAlt("True", coreInt(8)), coreAlt("False", c))
	}
	var wide impl.Core
	for i := range 6000 {
		wide.Alts = append(wide.Alts, coreAlt(nameAt("C", i), coreVar(nameAt("x", i))))
	}
	wide = coreCase("", []impl.Core{coreCon("C5999")}, wide.Alts...)
	checkLongPasses(t, []longPass{
		{"cases", severalOf(4, raised(x, 300, looked)), []int64{2}, severalOf(4, known)},
		{"sums", severalOf(20, raised(coreInt(1), 490, next)), []int64{2, 2}, severalOf(20, coreInt(491))},
		{"truths", severalOf(4, raised(coreInt(9), 490, inTurn)), []int64{2}, severalOf(4, coreInt(9))},
		{"many alternatives", wide, []int64{2}, coreVar("x5999")},
	})
}

func TestLongStrictPasses(t *testing.T) {
	t.Parallel()
	show := func(i int) impl.Core { return corePrim("primShow", before(i)) }
	failing := corePrim("primError", coreVar("z"))
	cases := func(count int, kid func(i int) impl.Core, name func(i int) string, last impl.Core) impl.Core {
		return framed(count, last, func(i int, c impl.Core) impl.Core { return coreCase(name(i), []impl.Core{kid(i), c}) })
	}
	named := func(i int) string { return nameAt("x", i) }
	one := oneLet(coreVar("x0"))
	outer := coreLet("u", coreApp(coreVar("f"), coreVar("g")), one)
	one.Kids[5999] = coreVar("u")
	checkLongPasses(t, []longPass{
		{"each by the next one", severalOf(5, lets(700, show, before(700))), []int64{6}, severalOf(5, cases(700, show, named, before(700)))},
		{"of one name", severalOf(5, raised(coreVar("y"), 900, func(c impl.Core) impl.Core { return coreLet("y", failing, c) })), []int64{6}, severalOf(5, cases(900, always(failing), func(int) string { return "y" }, coreVar("y")))},
		{"through one let", outer, []int64{6}, coreCase("u", outer.Kids)},
		{"none", severalOf(5, lets(700, show, coreInt(1))), []int64{6}, severalOf(5, lets(700, show, coreInt(1)))},
	})
}

func TestLongSubst(t *testing.T) {
	t.Parallel()
	wide := severalOf(15000, coreVar("y"))
	lams := func(name string, last impl.Core) impl.Core { return raised(last, 990, lamOf(name)) }
	if got := impl.Subst(lams("y", coreApp(coreVar("z"), coreVar("y"))), "z", wide); !impl.SameCore(got, lams("y'", coreApp(wide, coreVar("y'")))) {
		t.Error("many that would catch one")
	}
	if got := impl.Subst(lams("y", coreVar("y")), "z", wide); !impl.SameCore(got, lams("y", coreVar("y"))) {
		t.Error("many that catch none")
	}
	many := impl.Core{Kind: impl.CLam, Kids: []impl.Core{coreVar("z")}}
	turned := impl.Core{Kind: impl.CLam, Kids: []impl.Core{coreCon("C")}}
	for i := range 3000 {
		many.Names = append(many.Names, quotes("x", i))
		turned.Names = append(turned.Names, quotes("x", 3000+i))
		turned.Kids[0].Kids = append(turned.Kids[0].Kids, coreVar(quotes("x", i)))
	}
	if got := impl.Subst(many, "z", turned.Kids[0]); !impl.SameCore(got, turned) {
		t.Error("many names with new ones that are taken")
	}
	var beside, made []impl.Core
	for i := range 4000 {
		one := coreLam(nameAt("y", i), coreVar("z"))
		if i == 7 {
			one = coreLam("y", coreVar("z"))
		}
		beside = append(beside, one)
		made = append(made, replaced(one, "z", "y"))
	}
	made[7] = coreLam("y'", coreVar("y"))
	if got := impl.Subst(coreCon("C", beside...), "z", coreVar("y")); !impl.SameCore(got, coreCon("C", made...)) {
		t.Error("many beside each other")
	}
}
