package tests

import (
	"fmt"
	"slices"
	"testing"

	"loop.example/g00017/impl"
)

// A rulePlaces makes terms at which a rule applies so often, and what they are when it was done so often, from the first place on.
type rulePlaces struct {
	pass int64
	most int // so many are in one chain at most
	made func(count, done int) impl.Core
}

// framed puts frames around a term, the one with the number 0 outermost.
func framed(count int, c impl.Core, frame func(i int, c impl.Core) impl.Core) impl.Core {
	for i := count - 1; i >= 0; i-- {
		c = frame(i, c)
	}
	return c
}

func nameAt(letter string, i int) string { return fmt.Sprint(letter, i) }

func allRulePlaces() []rulePlaces {
	text := coreString("t")
	return []rulePlaces{
		{impl.PassBeta, 900, betaPlaces},
		{impl.PassKnown, 1, func(_, done int) impl.Core {
			return []impl.Core{corePrim("primOrd", coreChar("a")), coreInt(97)}[done]
		}},
		{impl.PassDead, 900, func(count, done int) impl.Core {
			return framed(count-done, coreVar("x"), func(i int, c impl.Core) impl.Core { return coreLet(nameAt("d", i+done), coreInt(1), c) })
		}},
		{impl.PassInline, 900, func(count, done int) impl.Core {
			return framed(count-done, coreVar("x"), func(i int, c impl.Core) impl.Core { return coreLet(nameAt("d", i+done), coreVar("y"), c) })
		}},
		{impl.PassFloat, 900, func(count, done int) impl.Core {
			bottom := coreLet("l", coreInt(1), coreVar("l"))
			if done > 0 {
				bottom = coreLet("l", coreInt(1), framed(done, coreVar("l"), func(_ int, c impl.Core) impl.Core { return coreApp(c, coreInt(2)) }))
			}
			return framed(count-done, bottom, func(_ int, c impl.Core) impl.Core { return coreApp(c, coreInt(2)) })
		}},
		{impl.PassStrict, 900, func(count, done int) impl.Core {
			return framed(count, corePrim("primError", text), func(i int, c impl.Core) impl.Core {
				if i < done {
					return coreCase(nameAt("s", i), []impl.Core{text, c})
				}
				return coreLet(nameAt("s", i), text, c)
			})
		}},
	}
}

// betaPlaces has functions in each other with an argument for each.
func betaPlaces(count, done int) impl.Core {
	inner := framed(count-done, coreVar("x"), func(i int, c impl.Core) impl.Core { return coreLam(nameAt("b", i+done), c) })
	if done < count {
		inner = coreApp(append([]impl.Core{inner}, slices.Repeat([]impl.Core{coreInt(1)}, count-done)...)...)
	}
	return framed(done, inner, func(i int, c impl.Core) impl.Core { return coreLet(nameAt("b", i), coreInt(1), c) })
}

// term has chains beside each other.
func (r rulePlaces) term(count, done int) impl.Core {
	var chains []impl.Core
	for count > 0 {
		length := min(count, r.most)
		now := min(length, done)
		chains = append(chains, r.made(length, now))
		count, done = count-length, done-now
	}
	return coreCon("R", chains...)
}

func TestRulesAreDoneFromTheFirstPlaceOn(t *testing.T) {
	t.Parallel()
	for _, r := range allRulePlaces() {
		for count := range 8 {
			c := r.term(count, 0)
			if r.most > 1 && count > 0 {
				c = r.made(count, 0)
			}
			now, applies := c, true
			for done := 0; applies; done++ {
				want := r.term(count, done)
				if r.most > 1 && count > 0 {
					want = r.made(count, done)
				}
				if coreText(now) != coreText(want) {
					t.Fatalf("%s: %d of %d is %s, not %s", impl.PassName(r.pass), done, count, shortCore(now), shortCore(want))
				}
				now, applies = changeFirst(now, slowPasses[r.pass])
			}
			if got := impl.RunPass(c, r.pass); coreText(got.Core) != coreText(now) {
				t.Errorf("%s: %d gives %s", impl.PassName(r.pass), count, shortCore(got.Core))
			}
		}
	}
}

func TestRulesAreDoneAtMost5000Times(t *testing.T) {
	t.Parallel()
	for _, r := range allRulePlaces() {
		for _, count := range []int{4999, 5000, 5001, 5010} {
			c := r.term(count, 0)
			if impl.CoreFault(c) != 0 {
				t.Fatalf("%s: a fault", impl.PassName(r.pass))
			}
			got := impl.RunPass(c, r.pass)
			if want := r.term(count, min(count, 5000)); got.Code != 0 || !impl.SameCore(got.Core, want) {
				t.Errorf("%s: at %d places another one is answered", impl.PassName(r.pass), count)
			}
			again := impl.RunPasses(c, []int64{r.pass, r.pass})
			if want := r.term(count, count); again.Code != 0 || !impl.SameCore(again.Core, want) {
				t.Errorf("%s: at %d places twice another one is answered", impl.PassName(r.pass), count)
			}
		}
	}
}

// The places of a CCase: what is looked at, the default, then the alternatives.
func TestPlacesInOrder(t *testing.T) {
	t.Parallel()
	place, gone := corePrim("primOrd", coreChar("a")), coreInt(97)
	some := func(count, done int) impl.Core {
		return coreCon("S", append(slices.Repeat([]impl.Core{gone}, done), slices.Repeat([]impl.Core{place}, count-done)...)...)
	}
	counts := []int{1700, 1300, 1100, 900} // 5000 in all
	term := func(counts, done []int) impl.Core {
		var parts []impl.Core
		for i := range counts {
			parts = append(parts, some(counts[i], done[i]))
		}
		return coreCase("v", []impl.Core{coreApp(coreVar("f"), parts[0]), parts[1]}, coreAlt("A a", parts[2]), coreAlt("B", parts[3]))
	}
	for more := range counts {
		with := slices.Clone(counts)
		with[more]++
		done := slices.Clone(with)
		done[3]--
		if got := impl.RunPass(term(with, make([]int, 4)), impl.PassKnown); !impl.SameCore(got.Core, term(with, done)) {
			t.Errorf("with one more in part %d another one is left", more)
		}
	}
}

// What a change makes apply further out comes ahead of what stands behind.
func TestPlacesFurtherOutComeFirst(t *testing.T) {
	t.Parallel()
	for _, row := range []struct {
		pass     int64
		from, to string // where the rule is done twice
	}{
		{impl.PassKnown, "(primOrd (primChr 97))", "97"},
		{impl.PassKnown, "(case (primEq 1 1) of { True -> x; False -> y })", "x"},
		{impl.PassKnown, "(primSeq (primAdd 1 1) x)", "x"},
		{impl.PassDead, "(let a = 1 in (C (let b = a in 5) 6))", "(C 5 6)"},
		{impl.PassDead, "(let a = (let b = c in 1); c = 2 in a)", "(let a = 1 in a)"},
		{impl.PassInline, "(let x = (let y = 1 in y) in (C x x))", "(C 1 1)"},
		{impl.PassInline, "(let y = (f 1) in (C (let x = y in 1) y))", "(C 1 (f 1))"},
		{impl.PassFloat, "(((let x = 1 in x) 2) 3)", "(let x = 1 in ((x 2) 3))"},
		{impl.PassFloat, "(case (case (let x = 1 in x) of { A -> 1 }) of { B -> 2 })", "(let x = 1 in (case (case x of { A -> 1 }) of { B -> 2 }))"},
		{impl.PassStrict, "(let x = (f y) in (let x = (primError z) in x))", "(case (f y) of x { _ -> (case (primError z) of x { _ -> x }) })"},
	} {
		var r rulePlaces
		for _, one := range allRulePlaces() {
			if one.pass == row.pass {
				r = one
			}
		}
		twice := readCore(row.from)
		for before := 4996; before <= 5000; before++ {
			c, want := r.term(before, 0), r.term(before, before)
			c.Kids = append(c.Kids, twice, r.made(1, 0))
			left, _ := changeFirst(twice, slowPasses[row.pass])
			switch before {
			case 5000:
				want.Kids = append(want.Kids, twice, r.made(1, 0))
			case 4999:
				want.Kids = append(want.Kids, left, r.made(1, 0))
			case 4998:
				want.Kids = append(want.Kids, readCore(row.to), r.made(1, 0))
			default:
				want.Kids = append(want.Kids, readCore(row.to), r.made(1, 1))
			}
			if got := impl.RunPass(c, row.pass); !impl.SameCore(got.Core, want) {
				t.Errorf("%s behind %d others: %s becomes another one", row.from, before, impl.PassName(row.pass))
			}
		}
	}
}

// What comes out may have as many terms and levels as a term may have; with one more all stays as it was.
func TestPassesThatMakeTooMuch(t *testing.T) {
	t.Parallel()
	for more := range 2 {
		// A case of a constructor without fields, whose name stands in its body, is one more when it is known.
		kids := slices.Repeat([]impl.Core{readCore("(case C of v { C -> v })")}, 4999)
		wide := coreCon("R", append(kids, slices.Repeat([]impl.Core{coreInt(1)}, 3+more)...)...)
		// One with a field is a level more.
		deep := framed(300, raised(coreVar("x"), 1000-3*300-1+more, coreLevels()["function"]), func(_ int, c impl.Core) impl.Core {
			return coreCase("v", []impl.Core{coreCon("C", coreInt(1))}, coreAlt("C a", coreCon("D", coreVar("v"), c)))
		})
		// What stands once is as deep as where it stands, and so it is where the rule would be done elsewhere, too.
		onceIn := func(levels int) impl.Core {
			return coreLet("y", raised(coreVar("u"), 500, coreLevels()["constructor"]), raised(coreVar("y"), levels+more, coreLevels()["function"]))
		}
		once := onceIn(499)
		beside := coreCon("B", readCore("(let a = 1 in a)"), onceIn(498), readCore("(let b = 1 in b)"))
		for what, one := range map[string]struct {
			c    impl.Core
			pass int64
		}{"wide": {wide, impl.PassKnown}, "deep": {deep, impl.PassKnown}, "once": {once, impl.PassInline}, "beside": {beside, impl.PassInline}} {
			if impl.CoreFault(one.c) != 0 {
				t.Fatal(what, "has a fault")
			}
			got := impl.RunPass(one.c, one.pass)
			isKept := impl.SameCore(got.Core, one.c)
			terms, names, levels := coreMeasures(got.Core)
			if got.Code != 0 || isKept != (more == 1) || more == 0 && terms+names != 20000 && levels != 1000 {
				t.Errorf("%s and %d more: code %d, kept %v, %d terms, %d names, %d levels", what, more, got.Code, isKept, terms, names, levels)
			}
			if twice := impl.RunPasses(one.c, []int64{one.pass, impl.PassBeta, one.pass}); !impl.SameCore(twice.Core, got.Core) {
				t.Errorf("%s and %d more: twice another one is answered", what, more)
			}
		}
	}
}

// On the way a term may be greater than a term may be.
func TestPassesThatMakeTooMuchOnTheWay(t *testing.T) {
	t.Parallel()
	// What is put into one another is too deep, until what is around has gone.
	apply := func(c impl.Core) impl.Core { return coreApp(c, coreInt(1)) }
	c := coreLet("x", raised(coreVar("u"), 500, coreLevels()["constructor"]), framed(400, raised(coreVar("x"), 300, apply), func(i int, c impl.Core) impl.Core {
		return coreLet(nameAt("d", i), coreInt(1), c)
	}))
	want := raised(raised(coreVar("u"), 500, coreLevels()["constructor"]), 300, apply)
	if got := impl.RunPass(c, impl.PassInline); impl.CoreFault(c) != 0 || got.Code != 0 || !impl.SameCore(got.Core, want) {
		t.Errorf("%d levels came out", coreDepth(got.Core))
	}
	// What is known is too much, until more is known around it. The inner ones come later, so that all goes ahead.
	inner := coreCon("R", slices.Repeat([]impl.Core{readCore("(case C of v { C -> v })")}, 6000)...)
	gone := coreCase("", []impl.Core{corePrim("primSeq", coreInt(1), coreCon("C", inner)), coreInt(2)}, coreAlt("D a", coreVar("a")))
	if got := impl.RunPass(gone, impl.PassKnown); impl.CoreFault(gone) != 0 || coreText(got.Core) != coreText(coreInt(2)) {
		t.Error("what is not looked at is not gone")
	}
}

func TestPassCodes(t *testing.T) {
	good, large := coreInt(1), coreCon("C", slices.Repeat([]impl.Core{coreInt(1)}, 20000)...)
	faulty := []impl.Core{{}, coreVar(""), large, raised(coreInt(1), 1000, coreLevels()["lambda"]), coreApp(coreVar("f")), coreCon("C", impl.Core{Kind: 11})}
	zero := func(code int64) impl.CoreResult { return impl.CoreResult{Code: code} }
	unknown := []int64{-1, 0, 7, 8, 1 << 40, -1 << 63, 1<<63 - 1}
	for p := int64(1); p <= 6; p++ {
		if got := impl.RunPass(good, p); passedText(got) != passedText(impl.CoreResult{Core: good}) {
			t.Errorf("pass %d of 1: %s", p, passedText(got))
		}
		for _, c := range faulty {
			if got := impl.RunPass(c, p); passedText(got) != passedText(zero(1)) {
				t.Errorf("pass %d of a faulty term has the code %d", p, got.Code)
			}
		}
	}
	for _, p := range unknown {
		if got := impl.RunPass(good, p); passedText(got) != passedText(zero(2)) {
			t.Errorf("pass %d: %s", p, passedText(got))
		}
		if got := impl.RunPass(faulty[0], p); passedText(got) != passedText(zero(1)) {
			t.Errorf("pass %d of a faulty term has the code %d", p, got.Code)
		}
	}
}

func TestPassListCodes(t *testing.T) {
	good, faulty := readCore(`((\x -> (primAdd x 1)) 2)`), impl.Core{Kind: impl.CLam}
	lists := [][]int64{nil, {}, {1}, {1, 4, 2}, {0}, {7}, {1, 9}, {-1, 1}, {1, 2, 3, 4, 5, 6, 0},
		make([]int64, 40), make([]int64, 41), slices.Repeat([]int64{1}, 40), slices.Repeat([]int64{1}, 41), slices.Repeat([]int64{4, 1}, 20),
		append(slices.Repeat([]int64{2}, 39), 7), append(slices.Repeat([]int64{2}, 40), 7), append([]int64{7}, slices.Repeat([]int64{2}, 40)...), slices.Repeat([]int64{3}, 100000)}
	want := []int64{0, 0, 0, 0, 2, 2, 2, 2, 2, 2, 3, 0, 3, 0, 2, 3, 3, 3}
	for i, list := range lists {
		got := impl.RunPasses(good, list)
		if got.Code != want[i] || passedText(got) != passedText(passesSlowly(good, list)) {
			t.Errorf("%d passes, the list %d: %s", len(list), i, passedText(got))
		}
		if got := impl.RunPasses(faulty, list); passedText(got) != passedText(impl.CoreResult{Code: 1}) {
			t.Errorf("of a faulty term the list %d has the code %d", i, got.Code)
		}
	}
	if got := impl.FormatCore(impl.RunPasses(good, []int64{impl.PassBeta, impl.PassInline, impl.PassKnown}).Core); got != "3" {
		t.Errorf("passes give %s", got)
	}
	if got := impl.FormatCore(impl.RunPasses(good, []int64{impl.PassKnown, impl.PassInline, impl.PassBeta}).Core); got != "(let x = 2 in (primAdd x 1))" {
		t.Errorf("passes give %s", got)
	}
}
