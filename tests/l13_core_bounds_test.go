package tests

import (
	"slices"
	"strconv"
	"strings"
	"testing"

	"loop.example/g00017/impl"
)

// namesUpTo has so many different names.
func namesUpTo(count int) []string {
	var names []string
	for i := range count {
		names = append(names, "n"+strconv.Itoa(i))
	}
	return names
}

// The forms in which a term has so many terms and names together.
func coreForms() map[string]func(count int) impl.Core {
	x := coreVar("x")
	xs := func(count int) []impl.Core { return slices.Repeat([]impl.Core{x}, count) }
	return map[string]func(int) impl.Core{
		"kids":          func(count int) impl.Core { return coreCon("C", xs(count-1)...) },
		"arguments":     func(count int) impl.Core { return coreApp(xs(count - 1)...) },
		"kids of a kid": func(count int) impl.Core { return coreApp(x, coreCon("C", xs(count-3)...)) },
		"names of a CLam": func(count int) impl.Core {
			return impl.Core{Kind: impl.CLam, Names: namesUpTo(count - 2), Kids: xs(1)}
		},
		"names of a CLet": func(count int) impl.Core {
			some := (count - 2) / 2
			c := impl.Core{Kind: impl.CLet, Names: namesUpTo(some), Kids: xs(some + 1)}
			if count%2 == 1 {
				c.Kids[0] = coreCon("C", x)
			}
			return c
		},
		"names of an alternative": func(count int) impl.Core {
			return coreCase("q", xs(1), impl.CoreAlt{Con: "A", Names: namesUpTo(count - 3), Body: x})
		},
		"names of two alternatives": func(count int) impl.Core {
			return coreCase("", xs(2), impl.CoreAlt{Con: "A", Names: namesUpTo(100), Body: x}, impl.CoreAlt{Con: "B", Names: namesUpTo(count - 105), Body: x})
		},
		"bodies": func(count int) impl.Core {
			c := coreCase("q", xs(1))
			for _, name := range namesUpTo(count - 2) {
				c.Alts = append(c.Alts, impl.CoreAlt{Con: name, Body: x})
			}
			return c
		},
		"terms and names in a body": func(count int) impl.Core {
			return coreCase("q", xs(1), coreAlt("A a b", impl.Core{Kind: impl.CLam, Names: namesUpTo(count - 6), Kids: xs(1)}))
		},
		"cases with names, which do not count": func(count int) impl.Core {
			c := coreCon("C")
			for range (count - 1) / 3 {
				c.Kids = append(c.Kids, coreCase("q", xs(2)))
			}
			c.Kids = append(c.Kids, xs((count-1)%3)...)
			return c
		},
	}
}

func TestMostCoreTermsAndNames(t *testing.T) {
	for name, form := range coreForms() {
		for _, count := range []int{impl.MaxCore - 1, impl.MaxCore} {
			c := form(count)
			terms, names, _ := coreMeasures(c)
			if got := impl.CoreFault(c); terms+names != count || got != 0 {
				t.Errorf("%s: %d have the fault %d", name, terms+names, got)
			}
			if impl.CoreSize(c) != int64(terms) || impl.FormatCore(c) != coreWritten(c) || !slices.Equal(impl.FreeNames(c), []string{"x"}) || coreText(impl.Rename(c, "x", "y")) != strings.ReplaceAll(coreText(c), `<1 "x"`, `<1 "y"`) {
				t.Errorf("%s: %d are told another way", name, count)
			}
		}
		for _, count := range []int{impl.MaxCore + 1, impl.MaxCore + 2, 3 * impl.MaxCore} {
			c := form(count)
			terms, _, _ := coreMeasures(c)
			if got := impl.CoreFault(c); got != 1 {
				t.Errorf("%s: %d have the fault %d", name, count, got)
			}
			if impl.CoreSize(c) != int64(terms) || impl.FormatCore(c) != "" || impl.FreeNames(c) != nil || coreText(impl.Rename(c, "x", "y")) != coreText(c) {
				t.Errorf("%s: %d are told another way", name, count)
			}
		}
	}
}

// coreLevels has the frames by which a term gets a level more.
func coreLevels() map[string]func(c impl.Core) impl.Core {
	x := coreVar("x")
	return map[string]func(impl.Core) impl.Core{
		"constructor": func(c impl.Core) impl.Core { return coreCon("C", c) },
		"last kid":    func(c impl.Core) impl.Core { return coreCon("C", x, c) },
		"function":    func(c impl.Core) impl.Core { return coreApp(c, x) },
		"argument":    func(c impl.Core) impl.Core { return coreApp(x, c) },
		"lambda":      func(c impl.Core) impl.Core { return coreLam("a", c) },
		"let":         func(c impl.Core) impl.Core { return coreLet("a", c, x) },
		"let's body":  func(c impl.Core) impl.Core { return coreLet("a", x, c) },
		"looked at":   func(c impl.Core) impl.Core { return coreCase("q", []impl.Core{c, x}) },
		"default":     func(c impl.Core) impl.Core { return coreCase("q", []impl.Core{x, c}) },
		"alternative": func(c impl.Core) impl.Core { return coreCase("q", []impl.Core{x}, coreAlt("A", c)) },
		"second one": func(c impl.Core) impl.Core {
			return coreCase("", []impl.Core{x, x}, coreAlt("A", x), coreAlt("B b", c))
		},
		"prim":          func(c impl.Core) impl.Core { return corePrim("primShow", c) },
		"prim's second": func(c impl.Core) impl.Core { return corePrim("primSeq", x, c) },
	}
}

func raised(c impl.Core, levels int, frame func(impl.Core) impl.Core) impl.Core {
	for range levels {
		c = frame(c)
	}
	return c
}

func TestMostCoreLevels(t *testing.T) {
	for _, frame := range coreLevels() {
		most := raised(coreVar("y"), impl.MaxCoreDeep-1, frame)
		if _, _, levels := coreMeasures(most); levels != impl.MaxCoreDeep {
			t.Fatal(levels)
		}
		checkCoreFault(t, 0, most, raised(coreString("text"), impl.MaxCoreDeep-1, frame))
		checkCoreFault(t, 1, frame(most), raised(most, 50, frame), coreApp(coreVar("x"), coreVar("x"), frame(most)))
	}
}

// A level is one whether it is a kid's or a body's.
func TestCoreLevelsOfAllKindsTogether(t *testing.T) {
	c, levels := coreVar("y"), 1
	for levels < impl.MaxCoreDeep {
		for _, name := range []string{"alternative", "let", "second one", "lambda", "looked at", "default", "argument", "prim", "function", "constructor"} {
			if levels == impl.MaxCoreDeep {
				break
			}
			c = coreLevels()[name](c)
			levels++
		}
	}
	checkCoreFault(t, 0, c)
	for _, frame := range coreLevels() {
		checkCoreFault(t, 1, frame(c))
	}
}

// A term that is too large and not as its kind asks is told as too large, wherever either stands.
func TestCoreSizeIsToldFirst(t *testing.T) {
	x := coreVar("x")
	for name, form := range coreForms() {
		wrongs := []impl.Core{{}, coreVar(""), {Kind: -1, Name: "x", Kids: []impl.Core{{}}}, corePrim("primAdd", x)}
		for _, wrong := range wrongs {
			terms, _, _ := coreMeasures(wrong)
			for _, pair := range [][]impl.Core{{wrong, form(impl.MaxCore - terms)}, {form(impl.MaxCore - terms), wrong}} {
				if got := impl.CoreFault(coreCon("C", pair...)); got != 1 {
					t.Errorf("%s: fault %d", name, got)
				}
			}
			if got := impl.CoreFault(coreCon("C", wrong, form(impl.MaxCore-terms-1))); got != 2 {
				t.Errorf("%s: fault %d", name, got)
			}
		}
	}
	for _, frame := range coreLevels() {
		checkCoreFault(t, 1, raised(impl.Core{}, impl.MaxCoreDeep, frame), coreApp(raised(x, impl.MaxCoreDeep-1, frame)), coreApp(impl.Core{}, raised(x, impl.MaxCoreDeep-1, frame)))
		checkCoreFault(t, 2, raised(impl.Core{}, impl.MaxCoreDeep-1, frame), coreApp(raised(x, impl.MaxCoreDeep-2, frame)))
	}
}

// Kids and bodies count wherever they stand; names only of a CLam, a CLet and alternatives.
func TestWhatCountsInOtherCores(t *testing.T) {
	x := coreVar("x")
	many, names := slices.Repeat([]impl.Core{x}, impl.MaxCore), namesUpTo(impl.MaxCore)
	for kind := int64(-1); kind <= 12; kind++ {
		if got := impl.CoreFault(impl.Core{Kind: kind, Name: "x", Kids: many}); got != 1 {
			t.Errorf("kind %d with kids: %d", kind, got)
		}
		alts := impl.Core{Kind: kind, Name: "x", Kids: many[:1]}
		for range impl.MaxCore - 1 {
			alts.Alts = append(alts.Alts, impl.CoreAlt{Con: "A", Body: x})
		}
		if got := impl.CoreFault(alts); got != 1 {
			t.Errorf("kind %d with bodies: %d", kind, got)
		}
		if got := impl.CoreFault(impl.Core{Kind: kind, Name: "x", Alts: []impl.CoreAlt{{Con: "A", Names: names, Body: x}}}); got != 1 {
			t.Errorf("kind %d with names of alternatives: %d", kind, got)
		}
		want := int64(2)
		if kind == impl.CLam || kind == impl.CLet {
			want = 1
		}
		if got := impl.CoreFault(impl.Core{Kind: kind, Name: "x", Names: names}); got != want {
			t.Errorf("kind %d with names: %d", kind, got)
		}
	}
	// The name of a CCase is none that counts.
	c := coreCase("q", []impl.Core{coreCon("C", many[:impl.MaxCore-3]...), x})
	checkCore(t, c)
	if impl.CoreFault(c) != 0 {
		t.Error("the name of a CCase counts")
	}
}
