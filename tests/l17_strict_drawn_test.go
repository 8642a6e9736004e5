package tests

import (
	"testing"

	"loop.example/g00017/impl"
)

// strictLeaves has what the small terms are made of.
func strictLeaves() []impl.Core {
	return []impl.Core{coreVar("x"), coreVar("y"), coreInt(1), corePrim("primError", coreString("e"))}
}

// strictFrames has each form of a term around one, with other terms beside it.
func strictFrames() []func(c, beside impl.Core) impl.Core {
	frames := []func(c, beside impl.Core) impl.Core{
		func(c, beside impl.Core) impl.Core { return coreApp(c, beside) },
		func(c, beside impl.Core) impl.Core { return coreApp(beside, c) },
		func(c, beside impl.Core) impl.Core { return corePrim("primAdd", c, beside) },
		func(c, beside impl.Core) impl.Core { return corePrim("primSeq", beside, c) },
		func(c, beside impl.Core) impl.Core { return corePrim("primError", c) },
		func(c, beside impl.Core) impl.Core { return coreCon("C", c, beside) },
		func(c, beside impl.Core) impl.Core { return coreLam("x", c) },
		func(c, beside impl.Core) impl.Core { return coreLam("z y", c) },
		func(c, beside impl.Core) impl.Core { return coreLet("x y", c, beside, coreVar("x")) },
		func(c, beside impl.Core) impl.Core { return coreLet("y z", coreVar("z"), c, beside) },
		func(c, beside impl.Core) impl.Core { return coreLet("z w", beside, c, coreVar("z")) },
	}
	for _, name := range []string{"", "x", "y", "z"} {
		if name != "" {
			frames = append(frames, func(c, beside impl.Core) impl.Core { return coreLet(name, c, beside) })
			frames = append(frames, func(c, beside impl.Core) impl.Core { return coreLet(name, beside, c) })
		}
		for _, head := range []string{"A", "A z x"} {
			frames = append(frames, func(c, beside impl.Core) impl.Core {
				return coreCase(name, []impl.Core{beside}, coreAlt(head, c))
			})
			frames = append(frames, func(c, beside impl.Core) impl.Core {
				return coreCase(name, []impl.Core{coreInt(1), beside}, coreAlt(head, c))
			})
			frames = append(frames, func(c, beside impl.Core) impl.Core {
				return coreCase(name, []impl.Core{coreInt(1), c}, coreAlt(head, beside), coreAlt("B", c))
			})
		}
		frames = append(frames, func(c, beside impl.Core) impl.Core { return coreCase(name, []impl.Core{c, beside}) })
		frames = append(frames, func(c, beside impl.Core) impl.Core { return coreCase(name, []impl.Core{beside, c}) })
	}
	return frames
}

// smallTerms has all terms of two such forms in each other.
func smallTerms(yield func(impl.Core) bool) {
	leaves, frames := strictLeaves(), strictFrames()
	for _, leaf := range leaves {
		for _, inner := range frames {
			for _, beside := range leaves {
				c := inner(leaf, beside)
				if !yield(c) {
					return
				}
				for _, outer := range frames {
					for _, other := range leaves {
						if !yield(outer(c, other)) {
							return
						}
					}
				}
			}
		}
	}
}

func TestStrictSmallTerms(t *testing.T) {
	t.Parallel()
	asked, strict := 0, 0
	for c := range smallTerms {
		strict += checkStrict(t, c, "x", "y", "z", "nowhere")
		asked += 4
	}
	if strict < asked/10 || strict > asked*9/10 || asked < 500000 {
		t.Errorf("of %d %d are strict", asked, strict)
	}
}

// strictTerms draws terms of several makers, with names that stand in them.
func strictTerms(seed uint64, count int, use func(c impl.Core)) {
	m, many, other := newPassMaker(seed), newPassMaker(seed+1), newCoreMaker(seed)
	m.names = "a b c"
	for i := range count {
		use(m.strictTerm(1 + i%6))
		use(many.strictTerm(1 + i%6))
		use(many.term(1 + i%6))
		use(other.sound(2 + i%5))
	}
}

func TestDrawnStrictTerms(t *testing.T) {
	t.Parallel()
	strict := 0
	strictTerms(1700, 5000, func(c impl.Core) {
		strict += checkStrict(t, c, "a", "b", "c", "d", "a'", "nowhere", "")
	})
	if strict < 15000 {
		t.Errorf("%d times only one was strict", strict)
	}
}

// What asks for a name asks for another one in its place, if that stood nowhere. (It need not be the other way round: what never comes to a value is strict in the new one, though something in it binds the old one.)
func TestStrictInRenamedNames(t *testing.T) {
	t.Parallel()
	strict := 0
	strictTerms(1710, 1500, func(c impl.Core) {
		for _, name := range []string{"a", "b"} {
			if !impl.StrictIn(c, name) {
				continue
			}
			strict++
			if renamed := impl.Rename(c, name, "new"); !impl.StrictIn(renamed, "new") {
				t.Errorf("%s is strict in %s, but %s is not in a new name", shortCore(c), name, shortCore(renamed))
			}
		}
	})
	if strict < 1000 {
		t.Errorf("%d were strict only", strict)
	}
}

// Where it stands nowhere, a name is like any other one that stands nowhere.
func TestStrictInNamesThatStandNowhere(t *testing.T) {
	t.Parallel()
	strict := 0
	strictTerms(1720, 1500, func(c impl.Core) {
		want := impl.StrictIn(c, "nowhere")
		for _, name := range []string{"elsewhere", "a''''", "C", "primError", "s", "", " "} {
			if impl.StrictIn(c, name) != want {
				t.Errorf("%s is strict in %q: %v", shortCore(c), name, !want)
			}
		}
		if want {
			strict++
		}
	})
	if strict < 500 {
		t.Errorf("%d never come to a value", strict)
	}
}

// PassStrict asks the same rule of the last kid of a CLet. Where that is not strict, and is not changed, the CLet stays.
func TestPassStrictAsksTheSameRule(t *testing.T) {
	t.Parallel()
	changed, kept := 0, 0
	strictTerms(1730, 2500, func(c impl.Core) {
		let := coreLet("a", coreApp(coreVar("f"), coreInt(1)), c)
		got := impl.RunPass(let, impl.PassStrict)
		isChanged := got.Core.Kind == impl.CCase
		switch {
		case impl.StrictIn(c, "a"):
			changed++
			if !isChanged {
				t.Errorf("%s stays, and is strict", shortCore(let))
			}
		case impl.SameCore(impl.RunPass(c, impl.PassStrict).Core, c):
			kept++
			if isChanged {
				t.Errorf("%s is changed, and is not strict", shortCore(let))
			}
		}
	})
	if changed < 2000 || kept < 2000 {
		t.Errorf("%d are changed, %d are kept", changed, kept)
	}
}
