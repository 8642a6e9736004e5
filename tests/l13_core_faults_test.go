package tests

import (
	"slices"
	"strconv"
	"strings"
	"testing"

	"loop.example/g00017/impl"
)

func TestPrimCounts(t *testing.T) {
	want := primCounts()
	if len(want) != 12 {
		t.Fatal("there are 12 prims")
	}
	names := []string{"", "x", "prim", "primAd", "primAddd", "primadd", " primAdd", "primAdd ", "PrimAdd", "primAppend", "negate", "Add", "primError\x00", "primSeqprimSeq"}
	names = append(names, impl.BuiltinNames()...)
	for name := range want {
		names = append(names, name, name+"'", strings.ToUpper(name), name[4:])
	}
	for _, name := range names {
		if got := impl.PrimCount(name); got != int64(want[name]) {
			t.Errorf("%q has %d", name, got)
		}
	}
}

// checkCoreFault asks for one code of all terms, and that the other functions go by it.
func checkCoreFault(t *testing.T, want int64, terms ...impl.Core) {
	t.Helper()
	for _, c := range terms {
		if got := impl.CoreFault(c); got != want {
			t.Errorf("%s has the fault %d, not %d", coreText(c), got, want)
		}
		checkCore(t, c)
	}
}

func TestPlainCoresHaveNoFault(t *testing.T) {
	for _, c := range plainCores() {
		checkCoreFault(t, 0, c)
	}
}

// A fault is found wherever it stands, and nothing else is at fault there.
func TestCoreFaultsInEachPlace(t *testing.T) {
	x := coreVar("x")
	frames := []func(c impl.Core) impl.Core{
		func(c impl.Core) impl.Core { return c },
		func(c impl.Core) impl.Core { return coreCon("C", x, c, x) },
		func(c impl.Core) impl.Core { return coreApp(c, x) },
		func(c impl.Core) impl.Core { return coreApp(x, c) },
		func(c impl.Core) impl.Core { return coreLam("x", c) },
		func(c impl.Core) impl.Core { return coreLet("x y", x, c, x) },
		func(c impl.Core) impl.Core { return coreLet("x y", x, x, c) },
		func(c impl.Core) impl.Core { return coreCase("", []impl.Core{c, x}) },
		func(c impl.Core) impl.Core { return coreCase("q", []impl.Core{x, c}, coreAlt("A", x)) },
		func(c impl.Core) impl.Core {
			return coreCase("q", []impl.Core{x}, coreAlt("A", x), coreAlt("B a", c), coreAlt("C", x))
		},
		func(c impl.Core) impl.Core { return corePrim("primAdd", x, c) },
		func(c impl.Core) impl.Core { return corePrim("primShow", c) },
	}
	good := append(plainCores(), coreChar("\n"), coreString(strings.Repeat("x", impl.MaxSource)))
	wrong := []impl.Core{{}, coreVar(""), coreApp(x), coreLam("", x), coreChar(""), coreString(""), coreCon(""), corePrim("x", x), {Kind: impl.CInt, Big: minusOf()}, {Kind: 11, Name: "x"}}
	for _, outer := range frames {
		for _, inner := range frames {
			for _, c := range good {
				checkCoreFault(t, 0, outer(inner(c)))
			}
			for _, c := range wrong {
				checkCoreFault(t, 2, outer(inner(c)))
			}
		}
	}
}

// Each kind of term in each of its forms, with one field that it does not have.
func TestCoreFieldsThatAKindDoesNotHave(t *testing.T) {
	x := coreVar("x")
	type field struct {
		kinds string // that have it
		put   func(c *impl.Core)
	}
	fields := []field{
		{"1 3 4 8 9 10", func(c *impl.Core) { c.Name = "x" }},
		{"2", func(c *impl.Core) { c.Big = impl.BigOf(1) }},
		{"2", func(c *impl.Core) { c.Big = impl.BigOf(-1) }},
		{"", func(c *impl.Core) { c.Big = impl.Big{Minus: true} }},
		{"", func(c *impl.Core) { c.Big = impl.Big{Limbs: []uint32{0}} }},
		{"6 7", func(c *impl.Core) { c.Names = []string{"x"} }},
		{"", func(c *impl.Core) { c.Names = []string{""} }},
		{"4 5 6 7 8 9", func(c *impl.Core) { c.Kids = []impl.Core{x} }},
		{"8", func(c *impl.Core) { c.Alts = []impl.CoreAlt{coreAlt("A", x)} }},
		{"", func(c *impl.Core) { c.Alts = []impl.CoreAlt{{}} }},
	}
	for _, plain := range plainCores() {
		for _, f := range fields {
			c := cloneCore(plain)
			f.put(&c)
			if !slices.Contains(strings.Fields(f.kinds), strconv.FormatInt(plain.Kind, 10)) {
				checkCoreFault(t, 2, c)
			}
			checkCore(t, c)
		}
		empty := cloneCore(plain)
		empty.Big.Limbs = append([]uint32{}, empty.Big.Limbs...)
		empty.Names, empty.Kids, empty.Alts = append([]string{}, empty.Names...), append([]impl.Core{}, empty.Kids...), append([]impl.CoreAlt{}, empty.Alts...)
		checkCoreFault(t, 0, empty)
	}
}

// All terms of all kinds, and of none, with few and many of each thing.
func TestEachCombinationOfCoreFields(t *testing.T) {
	x := coreVar("x")
	kinds := []int64{-1 << 63, -1, 0, 1, 2, 3, 4, 5, 6, 7, 8, 9, 10, 11, 12, 1 << 32, 1<<63 - 1}
	names := []string{"", "x", "primAdd", "primOrd", "xy"}
	numbers := []impl.Big{{}, limbsOf(7), minusOf(7), minusOf(), limbsOf(7, 0)}
	lists := [][]string{nil, {"x"}, {"x", "y"}, {"x", "x"}, {""}, {"x", ""}}
	kids := [][]impl.Core{nil, {x}, {x, x}, {x, x, x}, {x, x, x, x}}
	alts := [][]impl.CoreAlt{nil, {coreAlt("A", x)}, {coreAlt("A x y", x), coreAlt("B x", x)}, {coreAlt("A", x), coreAlt("A", x)}, {{Body: x}}, {coreAlt("A", impl.Core{})}}
	found := map[int64]int{}
	for _, kind := range kinds {
		for _, name := range names {
			for _, number := range numbers {
				for _, list := range lists {
					for _, kid := range kids {
						for _, alt := range alts {
							c := impl.Core{Kind: kind, Name: name, Big: number, Names: list, Kids: kid, Alts: alt}
							got := impl.CoreFault(c)
							if want := coreFaultSlowly(c); got != want {
								t.Errorf("%s has the fault %d, not %d", coreText(c), got, want)
							}
							if got == 0 {
								found[kind]++
							}
						}
					}
				}
			}
		}
	}
	for _, kind := range kinds {
		if isKind := 1 <= kind && kind <= 10; isKind != (found[kind] > 0) {
			t.Errorf("kind %d is found %d times without a fault", kind, found[kind])
		}
	}
}

func TestKidsOfEachCoreKind(t *testing.T) {
	x := coreVar("x")
	of := func(kind int64, name, names string, kids int) impl.Core {
		return impl.Core{Kind: kind, Name: name, Names: strings.Fields(names), Kids: slices.Repeat([]impl.Core{x}, kids)}
	}
	for kids := range 6 {
		fault := func(good bool) int64 {
			if good {
				return 0
			}
			return 2
		}
		checkCoreFault(t, fault(kids == 0), of(impl.CVar, "x", "", kids), of(impl.CInt, "", "", kids), of(impl.CChar, "x", "", kids), of(impl.CText, "x", "", kids))
		checkCoreFault(t, 0, of(impl.CCon, "C", "", kids))
		checkCoreFault(t, fault(kids >= 2), of(impl.CApp, "", "", kids))
		checkCoreFault(t, fault(kids == 1), of(impl.CLam, "", "x", kids), of(impl.CLam, "", "x y z", kids))
		checkCoreFault(t, fault(kids == 2), of(impl.CLet, "", "x", kids))
		checkCoreFault(t, fault(kids == 3), of(impl.CLet, "", "x y", kids))
		checkCoreFault(t, fault(kids == 4), of(impl.CLet, "", "x y z", kids))
		checkCoreFault(t, 2, of(impl.CLam, "", "", kids), of(impl.CLet, "", "", kids))
		checkCoreFault(t, fault(kids == 2), of(impl.CCase, "", "", kids), of(impl.CCase, "q", "", kids))
		for _, name := range []string{"", "q"} {
			c := of(impl.CCase, name, "", kids)
			c.Alts = []impl.CoreAlt{coreAlt("A", x)}
			checkCoreFault(t, fault(kids == 1 || kids == 2), c)
		}
		for name, count := range primCounts() {
			checkCoreFault(t, fault(kids == count), of(impl.CPrim, name, "", kids))
		}
		checkCoreFault(t, 2, of(impl.CPrim, "", "", kids), of(impl.CPrim, "primAppend", "", kids), of(impl.CPrim, "negate", "", kids))
	}
}

func TestNamesInCores(t *testing.T) {
	x := coreVar("x")
	lam := func(names ...string) impl.Core {
		return impl.Core{Kind: impl.CLam, Names: names, Kids: []impl.Core{x}}
	}
	let := func(names ...string) impl.Core {
		return impl.Core{Kind: impl.CLet, Names: names, Kids: slices.Repeat([]impl.Core{x}, len(names)+1)}
	}
	alt := func(name string, alts ...impl.CoreAlt) impl.Core {
		return coreCase(name, []impl.Core{x}, alts...)
	}
	row := func(con string, names ...string) impl.CoreAlt {
		return impl.CoreAlt{Con: con, Names: names, Body: x}
	}
	for _, names := range [][]string{{"x"}, {"x", "y"}, {"y", "x", "z"}, {"@1"}, {"#1.2", "inst:A:B"}, {"\x00"}, {" "}, {"x", "x'"}, {"x", "X"}, {"\xff\xfe"}, {"_"}} {
		checkCoreFault(t, 0, lam(names...), let(names...), alt("", row("A", names...)), alt(names[0], row("A", names...)), alt("q", row("A", names...), row("B", names...)), coreVar(names[0]), coreCon(names[0]))
	}
	for _, names := range [][]string{{""}, {"x", ""}, {"", "x"}, {"x", "x"}, {"x", "y", "x"}, {"y", "x", "x"}, {"", ""}} {
		checkCoreFault(t, 2, lam(names...), let(names...), alt("", row("A", names...)), alt("q", row("B"), row("A", names...)))
	}
	checkCoreFault(t, 2, coreVar(""), coreCon(""), coreCon("", x), alt("", row("")), alt("", row("", "x")), alt("", row("A"), row("")))
	checkCoreFault(t, 2, alt("", row("A"), row("A")), alt("q", row("A", "x"), row("B"), row("A")), alt("", row("A"), row("B"), row("B", "y")))
	checkCoreFault(t, 0, alt("", row("A"), row("B")), alt("x", row("A", "x"), row("B", "x", "y")), alt("", row("x", "x")), alt("", row("a"), row("A")), alt("_", row("_", "_")))
}

func TestCharsAndTextsInCores(t *testing.T) {
	for b := range 256 {
		one := string([]byte{byte(b)})
		checkCoreFault(t, 0, coreChar(one), coreString(one), coreString(one+one))
		checkCoreFault(t, 2, coreChar(one+one), coreChar("a"+one))
	}
	checkCoreFault(t, 2, coreChar(""), coreString(""), coreChar("é"), coreChar("abc"), coreChar(strings.Repeat("x", impl.MaxSource)))
	for _, piece := range []string{"x", "\x00", "\n", "é"} {
		most := strings.Repeat(piece, impl.MaxSource/len(piece))
		checkCoreFault(t, 0, coreString(most), coreString(most[1:]))
		checkCoreFault(t, 2, coreString(most+"x"), coreString(most+most))
	}
	long := strings.Repeat("x", 2*impl.MaxSource)
	checkCoreFault(t, 0, coreVar(long), coreCon(long), coreLam(long, coreVar(long)))
}

func TestNumbersInCores(t *testing.T) {
	for _, b := range faultless() {
		checkCoreFault(t, 0, impl.Core{Kind: impl.CInt, Big: b})
	}
	for _, b := range faulty() {
		checkCoreFault(t, 2, impl.Core{Kind: impl.CInt, Big: b}, coreApp(coreVar("f"), impl.Core{Kind: impl.CInt, Big: b}), impl.Core{Kind: impl.CVar, Name: "x", Big: b})
	}
	most := impl.Big{Limbs: slices.Repeat([]uint32{1<<32 - 1}, impl.MaxLimbs)}
	checkCoreFault(t, 0, impl.Core{Kind: impl.CInt, Big: most}, impl.Core{Kind: impl.CInt, Big: impl.Big{Minus: true, Limbs: most.Limbs}})
	checkCoreFault(t, 2, impl.Core{Kind: impl.CInt, Big: impl.Big{Limbs: append(most.Limbs, 1)}})
}
