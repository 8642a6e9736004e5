package tests

import (
	"math/rand/v2"
	"slices"
	"strings"
	"testing"

	"loop.example/g00017/impl"
)

// A passMaker draws terms at which rules apply often, with few names of which some are longer ones of others, so that new names are often taken.
type passMaker struct {
	*rand.Rand
	names string
}

func newPassMaker(seed uint64) passMaker {
	return passMaker{rand.New(rand.NewPCG(16, seed)), "a a' a'' b b' c"}
}

func (m passMaker) some(least, most int) []string {
	list := strings.Fields(m.names)
	m.Shuffle(len(list), func(i, j int) { list[i], list[j] = list[j], list[i] })
	return list[:least+m.IntN(most-least+1)]
}

func (m passMaker) several(count, levels int) []impl.Core {
	var list []impl.Core
	for range count {
		list = append(list, m.term(levels))
	}
	return list
}

func (m passMaker) leaf() impl.Core {
	switch m.IntN(10) {
	case 0:
		return coreInt(m.Int64N(5))
	case 1:
		return coreChar("c")
	case 2:
		return coreCon("C")
	case 3:
		return coreString("s")
	}
	return coreVar(m.some(1, 1)[0])
}

func (m passMaker) lam(levels int) impl.Core {
	return impl.Core{Kind: impl.CLam, Names: m.some(1, 3), Kids: m.several(1, levels)}
}

func (m passMaker) let(levels int) impl.Core {
	names := m.some(1, 1+m.IntN(2)*m.IntN(3))
	return impl.Core{Kind: impl.CLet, Names: names, Kids: m.several(len(names)+1, levels)}
}

func (m passMaker) prim(levels int) impl.Core {
	names := strings.Fields("primAdd primSub primDiv primEq primLess primSeq primOrd primChr primShow primError primError")
	name := names[m.IntN(len(names))]
	return corePrim(name, m.several(primCounts()[name], levels)...)
}

func (m passMaker) choice(levels int) impl.Core {
	made := impl.Core{Kind: impl.CCase, Kids: m.several(1+m.IntN(2), levels)}
	if m.IntN(2) == 0 {
		made.Kids[0] = m.value(levels)
	}
	if m.IntN(3) > 0 {
		made.Name = m.some(1, 1)[0]
	}
	cons := strings.Fields("C D")
	for _, con := range cons[:m.IntN(3)] {
		made.Alts = append(made.Alts, impl.CoreAlt{Con: con, Names: m.some(0, 2), Body: m.term(levels)})
	}
	if len(made.Alts) == 0 {
		made.Kids = append(made.Kids[:1:1], m.term(levels))
	}
	return made
}

// value draws what can be looked at.
func (m passMaker) value(levels int) impl.Core {
	switch m.IntN(6) {
	case 0:
		return m.lam(levels)
	case 1:
		return coreInt(7)
	case 2:
		return m.let(levels)
	}
	return coreCon("C", m.several(m.IntN(3), levels)...)
}

func (m passMaker) term(levels int) impl.Core {
	if levels < 1 {
		return m.leaf()
	}
	levels -= 1 + m.IntN(2)*m.IntN(2)
	switch m.IntN(12) {
	case 0:
		return m.leaf()
	case 1:
		return m.lam(levels)
	case 2, 3, 4:
		return m.let(levels)
	case 5, 6:
		return m.choice(levels)
	case 7:
		return m.prim(levels)
	case 8:
		return coreCon("C", m.several(m.IntN(3), levels)...)
	case 9:
		return coreApp(m.several(2+m.IntN(2), levels)...)
	}
	heads := []func(int) impl.Core{m.lam, m.let}
	return coreApp(append([]impl.Core{heads[m.IntN(2)](levels)}, m.several(1+m.IntN(3), levels)...)...)
}

func TestDrawnPasses(t *testing.T) {
	t.Parallel()
	m, other := newPassMaker(1), newCoreMaker(16)
	times := 0
	for i := range 6000 {
		times += checkPasses(t, m.term(1+i%6))
		times += checkPasses(t, other.sound(2+i%5))
	}
	if times < 20000 {
		t.Errorf("rules were done %d times only", times)
	}
}

func TestDrawnListsOfPasses(t *testing.T) {
	t.Parallel()
	m := newPassMaker(2)
	for i := range 2000 {
		c := m.term(1 + i%6)
		var list []int64
		for range m.IntN(8) {
			list = append(list, 1+m.Int64N(6))
		}
		got, want := impl.RunPasses(c, list), passesSlowly(c, list)
		if passedText(got) != passedText(want) {
			t.Errorf("passes %v make of %s\n%s, not\n%s", list, shortCore(c), shortCore(got.Core), shortCore(want.Core))
		}
	}
}

func TestDrawnSubst(t *testing.T) {
	t.Parallel()
	m, other := newPassMaker(3), newCoreMaker(17)
	changed := 0
	for i := range 4000 {
		c, by, name := m.term(1+i%6), m.term(i%4), m.some(1, 1)[0]
		if i%3 == 0 {
			c, by, name = other.sound(2+i%5), other.sound(1+i%3), "a"
		}
		got, want := impl.Subst(c, name, by), substSlowly(c, name, by)
		if coreText(got) != coreText(want) {
			t.Errorf("%s with %s as %s is\n%s, not\n%s", shortCore(c), name, shortCore(by), shortCore(got), shortCore(want))
		}
		if coreText(got) != coreText(c) {
			changed++
		}
		// No name is caught: told without the bound names, the term stands where the name stood.
		const mark = "<here>"
		around := nameless(c, nil, map[string]string{name: mark})
		if nameless(got, nil, nil) != strings.ReplaceAll(around, mark, nameless(by, nil, nil)) {
			t.Errorf("%s with %s as %s is %s", shortCore(c), name, shortCore(by), shortCore(got))
		}
	}
	if changed < 1200 {
		t.Errorf("%d terms were changed only", changed)
	}
}

func TestDrawnNames(t *testing.T) {
	t.Parallel()
	m := newPassMaker(4)
	for i := range 3000 {
		c := m.term(1 + i%6)
		if got, want := impl.AllNames(c), allNamesSlowly(c); !slices.Equal(got, want) {
			t.Errorf("%s has the names %q, not %q", shortCore(c), got, want)
		}
		avoid := m.some(0, 6)
		for _, name := range []string{"a", "a'", "b", "c", "", "'"} {
			if got, want := impl.Fresh(name, avoid), freshSlowly(name, avoid); got != want {
				t.Errorf("fresh of %q beside %q is %q, not %q", name, avoid, got, want)
			}
		}
	}
}

// strictTerm draws terms that are often strict in names, and never come to a value.
func (m passMaker) strictTerm(levels int) impl.Core {
	if levels < 1 {
		if m.IntN(3) == 0 {
			return corePrim("primError", coreString("e"))
		}
		return m.leaf()
	}
	several := func(count int) []impl.Core {
		var list []impl.Core
		for range count {
			list = append(list, m.strictTerm(levels-1))
		}
		return list
	}
	switch m.IntN(8) {
	case 0:
		return coreApp(several(2)...)
	case 1:
		return corePrim("primAdd", several(2)...)
	case 2:
		return corePrim("primSeq", several(2)...)
	case 3:
		return impl.Core{Kind: impl.CLam, Names: m.some(1, 1), Kids: several(1)}
	case 4:
		made := impl.Core{Kind: impl.CCase, Kids: several(1 + m.IntN(2))}
		if m.IntN(2) == 0 {
			made.Name = m.some(1, 1)[0]
		}
		made.Alts = []impl.CoreAlt{{Con: "C", Names: m.some(0, 1), Body: m.strictTerm(levels - 1)}}
		return made
	}
	names := m.some(1, 1+m.IntN(2))
	return impl.Core{Kind: impl.CLet, Names: names, Kids: several(len(names) + 1)}
}

func TestDrawnStrictPasses(t *testing.T) {
	t.Parallel()
	m := newPassMaker(5)
	m.names = "a b c"
	times := 0
	for i := range 20000 {
		c := m.strictTerm(1 + i%6)
		want, done := passSlowly(c, impl.PassStrict)
		times += done
		if got := impl.RunPass(c, impl.PassStrict); passedText(got) != passedText(impl.CoreResult{Core: want}) {
			t.Errorf("strict makes of %s\n%s, not\n%s", shortCore(c), shortCore(got.Core), shortCore(want))
		}
		for _, name := range []string{"a", "b", "z"} {
			if got, want := impl.StrictIn(c, name), strictSlowly(c, name); got != want {
				t.Errorf("%s is strict in %s: %v", shortCore(c), name, got)
			}
		}
	}
	if times < 20000 {
		t.Errorf("the rule was done %d times only", times)
	}
}
