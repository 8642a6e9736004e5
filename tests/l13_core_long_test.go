package tests

import (
	"math"
	"runtime"
	"runtime/debug"
	"slices"
	"strings"
	"testing"

	"loop.example/g00017/impl"
)

// The greatest depth without fault needs no deep stack.
func TestDeepestCoresInASmallStack(t *testing.T) {
	defer debug.SetMaxStack(debug.SetMaxStack(smallStack))
	for name, frame := range coreLevels() {
		c := raised(coreVar("y"), impl.MaxCoreDeep-1, frame)
		got := impl.Rename(c, "y", "z")
		if impl.CoreFault(c) != 0 || impl.FormatCore(c) == "" || !slices.Contains(impl.FreeNames(c), "y") || slices.Contains(impl.FreeNames(got), "y") || !slices.Contains(impl.FreeNames(got), "z") || impl.SameCore(c, got) || !impl.SameCore(c, impl.Rename(got, "z", "y")) {
			t.Errorf("%s", name)
		}
	}
}

// A depth far beyond all calls is told as a fault, and all else is answered.
func TestCoresFarTooDeep(t *testing.T) {
	defer debug.SetMaxStack(debug.SetMaxStack(smallStack))
	const levels = 50000
	for _, name := range []string{"constructor", "let's body", "alternative", "looked at", "second one"} {
		frame := coreLevels()[name]
		c, other := raised(coreVar("a"), levels, frame), raised(coreVar("b"), levels, frame)
		more := impl.CoreSize(frame(coreVar("a"))) - 1
		if impl.CoreFault(c) != 1 || impl.CoreSize(c) != 1+levels*more || impl.FormatCore(c) != "" || impl.FreeNames(c) != nil {
			t.Errorf("%s: size %d", name, impl.CoreSize(c))
		}
		got := impl.Rename(c, "a", "b")
		if !impl.SameCore(got, c) || impl.SameCore(c, other) || impl.SameCore(got, frame(c)) {
			t.Errorf("%s is another one", name)
		}
	}
}

func TestCoresFarTooWide(t *testing.T) {
	const count = 600000
	kids := slices.Repeat([]impl.Core{coreVar("x")}, count)
	alts := slices.Repeat([]impl.CoreAlt{coreAlt("A a", coreVar("x"))}, count)
	for i, c := range []impl.Core{coreCon("C", kids...), {Kind: impl.CCase, Kids: kids[:1], Alts: alts}, {Kind: impl.CLam, Names: slices.Repeat([]string{"x"}, count), Kids: kids[:1]}, {Kind: impl.CInt, Big: impl.Big{Limbs: make([]uint32, count)}}} {
		want := []int64{1 + count, 2 + count, 2, 1}[i]
		fault := []int64{1, 1, 1, 2}[i]
		got := impl.Rename(c, "x", "y")
		if impl.CoreFault(c) != fault || impl.CoreSize(c) != want || impl.FormatCore(c) != "" || impl.FreeNames(c) != nil || !impl.SameCore(got, c) {
			t.Errorf("%d: fault %d, size %d", i, impl.CoreFault(c), impl.CoreSize(c))
		}
	}
}

// coreLists adds where all lists of a term lie.
func coreLists(lists []memory, c *impl.Core) []memory {
	add := func(more []memory) { lists = append(lists, more...) }
	add(memoryOf(c.Big.Limbs))
	add(memoryOf(c.Names))
	add(memoryOf(c.Kids))
	add(memoryOf(c.Alts))
	for i := range c.Kids {
		lists = coreLists(lists, &c.Kids[i])
	}
	for i := range c.Alts {
		add(memoryOf(c.Alts[i].Names))
		lists = coreLists(lists, &c.Alts[i].Body)
	}
	return lists
}

// checkCoreApart asks that what is answered of a term with an end, in which nothing binds x, has no two lists in one memory, and none of the argument's.
func checkCoreApart(t *testing.T, what string, c impl.Core) {
	t.Helper()
	got := impl.Rename(c, "x", "y")
	want := cloneCore(c)
	if impl.CoreFault(c) == 0 {
		for _, part := range coreParts(&want) {
			if part.Kind == impl.CVar && part.Name == "x" {
				part.Name = "y"
			}
		}
	}
	if !impl.SameCore(got, want) {
		t.Errorf("%s: another one is answered", what)
	}
	lists, given := coreLists(nil, &got), coreLists(nil, &c)
	if !apart(lists) {
		t.Errorf("%s: two lists share memory", what)
	}
	slices.SortFunc(given, func(a, b memory) int { return int(a.from) - int(b.from) })
	given = slices.Compact(given)
	if len(given) < 100 && touches(lists, given) {
		t.Errorf("%s: a list lies in an argument", what)
	}
	spoilCore(got)
	if again := impl.Rename(c, "x", "y"); !impl.SameCore(again, want) {
		t.Errorf("%s: answered another way behind a change of it", what)
	}
}

// However large terms are, and however often a list stands in them, the lists that are answered are apart.
func TestSharedCoreListsComeApart(t *testing.T) {
	for _, count := range []int{1, 2, 3, 100, impl.MaxCore/2 - 3, impl.MaxCore / 2, impl.MaxCore, impl.MaxCore + 1, 40000} {
		x := coreVar("x")
		kids := slices.Repeat([]impl.Core{x}, count)
		part := impl.Core{Kind: impl.CCon, Name: "L", Kids: kids}
		checkCoreApart(t, "kids twice", coreCon("P", part, part))
		checkCoreApart(t, "kids of two kinds", coreCon("P", part, impl.Core{Kind: impl.CApp, Kids: kids}))
		checkCoreApart(t, "kids in part", coreCon("P", impl.Core{Kind: impl.CApp, Kids: kids[:count/2]}, impl.Core{Kind: impl.CApp, Kids: kids[count/3:]}, part))
		checkCoreApart(t, "kids in a body", coreCase("q", []impl.Core{part, part}, coreAlt("A a", part), coreAlt("B", coreLam("a", part))))
		var alts []impl.CoreAlt
		for _, con := range namesUpTo(count) {
			alts = append(alts, impl.CoreAlt{Con: con, Body: x})
		}
		choice := impl.Core{Kind: impl.CCase, Name: "q", Kids: []impl.Core{x}, Alts: alts}
		checkCoreApart(t, "alternatives twice", coreCon("P", choice, choice))
		checkCoreApart(t, "alternatives in part", coreApp(choice, impl.Core{Kind: impl.CCase, Kids: []impl.Core{x}, Alts: alts[:(count+1)/2]}, impl.Core{Kind: impl.CCase, Kids: []impl.Core{x, x}, Alts: alts[count/3:]}))
		names := namesUpTo(count)
		lam := impl.Core{Kind: impl.CLam, Names: names, Kids: []impl.Core{x}}
		checkCoreApart(t, "names twice", coreApp(lam, lam))
		checkCoreApart(t, "names of alternatives", coreCase("q", []impl.Core{lam}, impl.CoreAlt{Con: "A", Names: names, Body: x}, impl.CoreAlt{Con: "B", Names: names[:count/2], Body: lam}))
		checkCoreApart(t, "names of a let", coreApp(lam, impl.Core{Kind: impl.CLet, Names: names, Kids: slices.Repeat([]impl.Core{x}, count+1)}))
		number := impl.Core{Kind: impl.CInt, Big: impl.Big{Limbs: slices.Repeat([]uint32{3}, count)}}
		checkCoreApart(t, "limbs twice", coreCon("P", number, number, impl.Core{Kind: impl.CInt, Big: impl.Big{Minus: true, Limbs: number.Big.Limbs[count/2:]}}))
	}
}

// Room grows with the argument: a list that is far too long comes apart in each of a few places.
func TestVeryLongCoreListsComeApart(t *testing.T) {
	const count = 600000
	for name, part := range map[string]impl.Core{"kids": {Kids: make([]impl.Core, count)}, "alternatives": {Alts: make([]impl.CoreAlt, count)}, "names": {Names: make([]string, count)}, "limbs": {Big: impl.Big{Limbs: make([]uint32, count)}}} {
		c := coreCon("P", part, coreCon("P", part), part)
		got := impl.Rename(c, "x", "y")
		if !impl.SameCore(got, c) {
			t.Errorf("%s: another one is answered", name)
		}
		lists, given := coreLists(nil, &got), coreLists(nil, &part)
		if touches(lists, given) || !apart(lists) {
			t.Errorf("%s: two lists share memory", name)
		}
	}
	number := impl.Core{Kind: impl.CInt, Big: impl.Big{Limbs: make([]uint32, 5*count)}}
	got := impl.Rename(coreCon("P", number, number, number), "x", "y")
	if lists := coreLists(nil, &got); !apart(lists) || touches(lists, memoryOf(number.Big.Limbs)) || len(got.Kids[2].Big.Limbs) != 5*count {
		t.Error("very many limbs share memory")
	}
}

// The root itself shares lists with what is below it.
func TestSharedCoreListsOfTheRoot(t *testing.T) {
	names, limbs := []string{"a", "b"}, []uint32{1, 2}
	leaf := coreVar("x")
	for _, count := range []int{1, 5, impl.MaxCore} {
		root := impl.Core{Kind: impl.CLam, Names: names, Big: impl.Big{Limbs: limbs}, Alts: []impl.CoreAlt{{Con: "A", Names: names, Body: impl.Core{Kind: impl.CInt, Big: impl.Big{Limbs: limbs}}}}}
		for range count {
			root.Kids = append(root.Kids, impl.Core{Kind: impl.CLam, Names: names, Big: impl.Big{Limbs: limbs}, Kids: []impl.Core{leaf}})
		}
		checkCoreApart(t, "the root's", root)
	}
}

// Levels of two that are one: a few lists, in a term of very many.
func TestSharedCoreLevels(t *testing.T) {
	double := func(c impl.Core) impl.Core { return coreCon("D", c, c) }
	bodies := func(c impl.Core) impl.Core {
		return coreCase("", []impl.Core{coreVar("x")}, coreAlt("A a", c), coreAlt("B", c))
	}
	for name, frame := range map[string]func(impl.Core) impl.Core{"kids": double, "bodies": bodies} {
		for _, levels := range []int{1, 5, 12, 13, 16} {
			checkCoreApart(t, name, raised(coreVar("x"), levels, frame))
		}
		a, b, other := raised(coreVar("x"), 300, frame), raised(coreVar("x"), 300, frame), raised(coreVar("y"), 300, frame)
		got := impl.Rename(a, "x", "y")
		if impl.CoreFault(a) != 1 || impl.FormatCore(a) != "" || impl.FreeNames(a) != nil || !impl.SameCore(a, b) || impl.SameCore(a, other) || impl.SameCore(a, frame(a)) || !impl.SameCore(a, got) {
			t.Errorf("%s", name)
		}
		spoilFirst(got, 3)
		if !impl.SameCore(a, b) {
			t.Errorf("%s: the answer is the argument's memory", name)
		}
	}
	for levels := range 70 {
		want := int64(math.MaxInt64)
		if levels < 63 {
			want = math.MaxInt64 >> (62 - levels) // 2^(levels+1) - 1
		}
		if got := impl.CoreSize(raised(coreVar("x"), levels, double)); got != want {
			t.Errorf("%d levels of two: %d, not %d", levels, got, want)
		}
	}
}

// spoilFirst overwrites the lists of the first few levels.
func spoilFirst(c impl.Core, levels int) {
	if levels == 0 {
		return
	}
	for _, part := range belowCore(c) {
		spoilFirst(part, levels-1)
	}
	clear(c.Names)
	clear(c.Kids)
	clear(c.Alts)
}

// roundCore has a list of kids, or of alternatives, that comes back to itself behind so many others, each with what stands beside.
func roundCore(length int, byAlts bool, beside ...impl.Core) impl.Core {
	hole := impl.Core{Kind: impl.CCon, Name: "R"}
	first, c := &hole, hole
	for i := range length {
		if byAlts {
			alts := []impl.CoreAlt{{Con: "A", Names: []string{"a"}, Body: c}}
			c = impl.Core{Kind: impl.CCase, Name: "R", Kids: beside, Alts: alts}
			if i == 0 {
				first = &alts[0].Body
			}
			continue
		}
		kids := append([]impl.Core{c}, beside...)
		c = impl.Core{Kind: impl.CCon, Name: "R", Kids: kids}
		if i == 0 {
			first = &kids[0]
		}
	}
	*first = c
	return c
}

// nextIn goes a step along a round.
func nextIn(c impl.Core) impl.Core {
	if len(c.Alts) > 0 {
		return c.Alts[0].Body
	}
	return c.Kids[0]
}

// isInRound says whether a list of a term is one of a round of so many.
func isInRound(c, round impl.Core, length int) bool {
	for range length {
		if len(c.Alts) > 0 && &c.Alts[0] == &round.Alts[0] || len(c.Kids) > 0 && len(round.Kids) > 0 && &c.Kids[0] == &round.Kids[0] {
			return true
		}
		round = nextIn(round)
	}
	return false
}

// Terms that come back to themselves have a fault, no end of terms, and are the same as others that go on alike.
func TestCoresThatComeBack(t *testing.T) {
	for _, byAlts := range []bool{false, true} {
		beside := []impl.Core{coreVar("x"), coreLam("y", coreVar("x"))}
		kept := coreText(coreCon("", beside...))
		for _, length := range []int{1, 2, 3, 10, 50} {
			c := roundCore(length, byAlts, beside...)
			got := impl.Rename(c, "x", "y")
			if impl.CoreFault(c) != 1 || impl.CoreSize(c) != math.MaxInt64 || impl.FormatCore(c) != "" || impl.FreeNames(c) != nil {
				t.Errorf("a round of %d: fault %d, size %d", length, impl.CoreFault(c), impl.CoreSize(c))
			}
			if !impl.SameCore(got, c) || !impl.SameCore(c, c) || !impl.SameCore(c, nextIn(c)) || !impl.SameCore(c, roundCore(length+1, byAlts, beside...)) || impl.SameCore(c, roundCore(length, !byAlts, beside...)) || impl.SameCore(c, roundCore(length, byAlts, beside[0], coreVar("x"))) {
				t.Errorf("a round of %d is not what it is", length)
			}
			at := got
			var lists []memory
			for step := range 3 * length {
				if isInRound(at, c, length) {
					t.Fatalf("a round of %d leads into the argument", length)
				}
				at = nextIn(at)
				if step < length {
					lists = append(lists, memoryOf(at.Alts)...)
					lists = append(lists, memoryOf(at.Kids)...)
				}
			}
			if !apart(lists) {
				t.Errorf("two lists of a round of %d share memory", length)
			}
			spoilFirst(got, 2)
			if !impl.SameCore(c, roundCore(length, byAlts, beside...)) || coreText(coreCon("", beside...)) != kept {
				t.Errorf("a round of %d shares memory with its answer", length)
			}
		}
	}
}

// A change anywhere in a round is seen.
func TestCoreRoundsThatDiffer(t *testing.T) {
	for _, byAlts := range []bool{false, true} {
		a, b := roundCore(7, byAlts, coreVar("x")), roundCore(7, byAlts, coreVar("x"))
		at := b
		for step := range 7 {
			list := at.Kids
			last := &list[len(list)-1]
			old := *last
			*last = coreVar("other")
			if impl.SameCore(a, b) || impl.SameCore(b, a) {
				t.Errorf("step %d is not seen", step)
			}
			*last = old
			if !impl.SameCore(a, b) {
				t.Errorf("step %d", step)
			}
			at = nextIn(at)
		}
	}
}

// Long rounds of different lengths are held against each other without going through all pairs of their lists.
func TestLongCoreRounds(t *testing.T) {
	for _, byAlts := range []bool{false, true} {
		a, b := roundCore(99991, byAlts, coreVar("x")), roundCore(100003, byAlts, coreVar("x"))
		if !impl.SameCore(a, b) || impl.CoreSize(a) != math.MaxInt64 || !impl.SameCore(impl.Rename(a, "x", "y"), b) || impl.CoreFault(a) != 1 {
			t.Error("long rounds")
		}
	}
	// Very wide lists that come back to themselves at each of their places.
	kids := make([]impl.Core, 30000)
	alts := make([]impl.CoreAlt, 30000)
	for i := range kids {
		kids[i] = impl.Core{Kind: impl.CCase, Kids: kids, Alts: alts}
		alts[i].Body = kids[i]
	}
	c := impl.Core{Kind: impl.CCase, Kids: kids, Alts: alts}
	if impl.CoreFault(c) != 1 || impl.CoreSize(c) != math.MaxInt64 || !impl.SameCore(impl.Rename(c, "x", "y"), c) || impl.FreeNames(c) != nil || impl.FormatCore(c) != "" {
		t.Error("wide rounds")
	}
}

// What comes back to itself takes nothing from the lists beside it, and in it, that have an end.
func TestSharedCoreListsBesideRounds(t *testing.T) {
	for _, count := range []int{1, 100, impl.MaxCore + 1, 60000} {
		part := coreCon("L", slices.Repeat([]impl.Core{coreVar("x")}, count)...)
		number := impl.Core{Kind: impl.CInt, Big: impl.Big{Limbs: []uint32{1, 2}}}
		lam := coreLam("a b", part)
		for _, byAlts := range []bool{false, true} {
			round := roundCore(1, byAlts, part, part, number, number, lam, lam)
			c := coreCon("P", part, round, lam, number)
			got := impl.Rename(c, "x", "y")
			if !impl.SameCore(got, c) {
				t.Error("another one is answered")
			}
			var lists []memory
			ends := []impl.Core{got.Kids[0], got.Kids[2], got.Kids[3]}
			ends = append(ends, got.Kids[1].Kids[len(got.Kids[1].Kids)-6:]...)
			for _, end := range ends {
				lists = coreLists(lists, &end)
			}
			own := coreCon("P", part, lam, number)
			given := coreLists(nil, &own)
			if !apart(slices.Clone(lists)) || count <= 100 && touches(lists, given) {
				t.Errorf("%d: lists share memory", count)
			}
		}
	}
	part := coreCon("L", slices.Repeat([]impl.Core{coreVar("x")}, 300)...)
	got := impl.Rename(coreCon("P", roundCore(1, false), coreCon("P", slices.Repeat([]impl.Core{part}, 300)...)), "x", "y")
	if lists := coreLists(nil, &got.Kids[1]); len(lists) != 301 || !apart(lists) {
		t.Error("many small lists share memory")
	}
}

// allocated says how much memory a call has asked for.
func allocated(call func()) uint64 {
	var before, after runtime.MemStats
	runtime.ReadMemStats(&before)
	call()
	runtime.ReadMemStats(&after)
	return after.TotalAlloc - before.TotalAlloc
}

// One list in very many places takes no memory for each of them where there is none.
func TestCoresOfOneListInVeryManyPlaces(t *testing.T) {
	const count, times, most = 20000, 4000, 1 << 30
	names, wide, limbs := namesUpTo(count), slices.Repeat([]impl.Core{coreVar("x")}, count), make([]uint32, count)
	var byAlts impl.Core
	byNames, byLimbs, byKids := coreCon("C"), coreCon("C"), coreCon("C")
	for range times {
		byNames.Kids = append(byNames.Kids, impl.Core{Kind: impl.CLam, Names: names, Kids: wide[:1]})
		byAlts.Alts = append(byAlts.Alts, impl.CoreAlt{Names: names})
		byLimbs.Kids = append(byLimbs.Kids, impl.Core{Big: impl.Big{Limbs: limbs}}, impl.Core{Big: impl.Big{Limbs: limbs}}, impl.Core{Big: impl.Big{Limbs: limbs}}, impl.Core{Big: impl.Big{Limbs: limbs}})
		byKids.Kids = append(byKids.Kids, impl.Core{Kind: impl.CCon, Name: "C", Kids: wide})
	}
	for name, c := range map[string]impl.Core{"names": byNames, "alternatives": byAlts, "limbs": byLimbs, "kids": byKids} {
		var got impl.Core
		if asked := allocated(func() { got = impl.Rename(c, "x", "y") }); asked > most {
			t.Errorf("%s: %d bytes", name, asked)
		}
		if asked := allocated(func() { impl.CoreSize(c) }); asked > most {
			t.Errorf("%s: %d bytes for a size", name, asked)
		}
		if !impl.SameCore(got, c) {
			t.Errorf("%s: another one is answered", name)
		}
		for _, one := range got.Kids {
			if touches(memoryOf(one.Names), memoryOf(names)) || touches(memoryOf(one.Kids), memoryOf(wide)) || touches(memoryOf(one.Big.Limbs), memoryOf(limbs)) || len(one.Names) > 0 && within(one.Names[7], names[7]) {
				t.Fatalf("%s: a list lies in the argument", name)
			}
		}
		for _, alt := range got.Alts {
			if touches(memoryOf(alt.Names), memoryOf(names)) || within(alt.Names[7], names[7]) {
				t.Fatalf("%s: a list lies in the argument", name)
			}
		}
	}
	if impl.CoreSize(byKids) != 1+times*(1+count) || impl.CoreSize(byNames) != 1+2*times {
		t.Error("sizes")
	}
}

// A list in not so many places is apart in each of them.
func TestCoresOfOneListInManyPlaces(t *testing.T) {
	lam := impl.Core{Kind: impl.CLam, Names: namesUpTo(30000), Kids: []impl.Core{coreVar("x")}}
	got := impl.Rename(coreCon("C", slices.Repeat([]impl.Core{lam}, 100)...), "x", "y")
	if lists := coreLists(nil, &got); len(lists) != 201 || !apart(lists) {
		t.Error("names share memory")
	}
	got = impl.Rename(coreCon("C", slices.Repeat([]impl.Core{coreCon("D", slices.Repeat([]impl.Core{coreVar("x")}, 50)...)}, 30000)...), "x", "y")
	if lists := coreLists(nil, &got); len(lists) != 30001 || !apart(lists) {
		t.Error("kids share memory")
	}
}

// One text in very many places is one in the answer, too, but another one.
func TestCoresOfOneTextInManyPlaces(t *testing.T) {
	text := strings.Repeat("t", impl.MaxSource)
	c := coreCon("C", slices.Repeat([]impl.Core{coreString(text)}, impl.MaxCore-1)...)
	var got impl.Core
	asked := allocated(func() { got = impl.Rename(c, "x", "y") })
	if impl.CoreFault(c) != 0 || !impl.SameCore(got, c) || within(got.Kids[5].Name, text) || asked > 1<<28 {
		t.Errorf("%d bytes", asked)
	}
}
