package tests

import (
	"strings"
	"testing"

	"loop.example/g00017/impl"
)

// checkSameCore asks both ways.
func checkSameCore(t *testing.T, what string, a, b impl.Core, want bool) {
	t.Helper()
	if impl.SameCore(a, b) != want || impl.SameCore(b, a) != want {
		t.Errorf("%s: %.300s and %.300s: not %v", what, coreText(a), coreText(b), want)
	}
}

// Each field of each term in a term is turned by itself.
func TestSameCoreTellsEachField(t *testing.T) {
	m := newCoreMaker(8)
	terms := plainCores()
	for range 12 {
		c := m.sound(5)
		terms = append(terms, c, m.spoilt(c), m.spoilt(m.spoilt(c)))
	}
	turned := map[string]int{}
	for _, c := range terms {
		checkSameCore(t, "a copy", c, cloneCore(c), true)
		checkSameCore(t, "itself", c, c, true)
		for at := range coreParts(&c) {
			for _, change := range oneFieldChanges() {
				own := cloneCore(c)
				change.turn(coreParts(&own)[at])
				isSame := coreText(own) == coreText(c)
				checkSameCore(t, change.name, c, own, isSame)
				if !isSame {
					turned[change.name]++
				}
			}
		}
	}
	for _, change := range oneFieldChanges() {
		if turned[change.name] == 0 {
			t.Errorf("%s turns nothing", change.name)
		}
	}
}

// All pairs of some terms, faulty ones among them.
func TestSameCoreOfAllPairs(t *testing.T) {
	terms := severalCores()[:250]
	x := coreVar("x")
	terms = append(terms,
		coreCon("C", x, x), coreCase("C", []impl.Core{x, x}), coreCase("C", []impl.Core{x}, impl.CoreAlt{Body: x}), impl.Core{Kind: impl.CCon, Name: "C", Alts: []impl.CoreAlt{{Body: x}, {Body: x}}},
		coreLam("a b", x), coreLam("b a", x), impl.Core{Kind: impl.CLam, Names: []string{"a b"}, Kids: []impl.Core{x}}, impl.Core{Kind: impl.CLam, Names: []string{"a", "b", ""}, Kids: []impl.Core{x}},
		coreVar("a"), coreChar("a"), coreString("a"), coreCon("a"), impl.Core{Kind: impl.CInt, Big: limbsOf(1, 0)}, impl.Core{Kind: impl.CInt, Big: limbsOf(1)}, impl.Core{Kind: impl.CInt, Big: minusOf(1)}, impl.Core{Kind: impl.CInt, Big: minusOf()}, coreInt(0),
	)
	var texts []string
	for _, c := range terms {
		texts = append(texts, coreText(c))
	}
	for i, a := range terms {
		for j, b := range terms {
			if got := impl.SameCore(a, b); got != (texts[i] == texts[j]) {
				t.Errorf("%s and %s: %v", texts[i], texts[j], got)
			}
		}
	}
}

// A list without anything is none.
func TestSameCoreOfEmptyLists(t *testing.T) {
	empty := impl.Core{Kind: impl.CVar, Name: "x", Big: impl.Big{Limbs: []uint32{}}, Names: []string{}, Kids: []impl.Core{}, Alts: []impl.CoreAlt{}}
	checkSameCore(t, "empty", empty, coreVar("x"), true)
	alt := impl.CoreAlt{Con: "A", Names: []string{}, Body: empty}
	checkSameCore(t, "empty below", coreCase("", []impl.Core{empty}, alt), coreCase("", []impl.Core{coreVar("x")}, impl.CoreAlt{Con: "A", Body: coreVar("x")}), true)
	got := impl.Rename(coreCase("", []impl.Core{empty}, alt), "y", "z")
	if got.Names != nil || got.Kids[0].Big.Limbs != nil || got.Kids[0].Names != nil || got.Kids[0].Kids != nil || got.Kids[0].Alts != nil || got.Alts[0].Names != nil || got.Alts[0].Body.Kids != nil {
		t.Error("an empty list is not none")
	}
	if got := impl.Rename(impl.Core{Kind: -1, Kids: []impl.Core{empty}}, "y", "z"); got.Kids[0].Kids != nil || got.Kids[0].Names != nil {
		t.Error("an empty list of a faulty term is not none")
	}
	if impl.FreeNames(coreInt(1)) != nil {
		t.Error("no names are not none")
	}
}

// Two lists of one memory are held against each other place by place.
func TestSameCoreOfPartsOfOneList(t *testing.T) {
	x := coreVar("x")
	alts := []impl.CoreAlt{coreAlt("A a", x), coreAlt("B a", x), coreAlt("B a", x), coreAlt("A b", x), coreAlt("A b", x), coreAlt("A a", x), coreAlt("A a", coreVar("y")), coreAlt("A a", x)}
	kids := []impl.Core{x, coreVar("y"), coreVar("y"), x, coreVar("y"), x, x, x}
	for from := range alts {
		for other := range alts {
			for count := range len(alts) - max(from, other) + 1 {
				a := impl.Core{Alts: alts[from : from+count], Kids: kids[from : from+count]}
				b := impl.Core{Alts: alts[other : other+count], Kids: kids[other : other+count]}
				checkSameCore(t, "parts", a, b, coreText(a) == coreText(b))
				checkSameCore(t, "parts of alternatives", impl.Core{Alts: a.Alts}, impl.Core{Alts: b.Alts}, coreText(impl.Core{Alts: a.Alts}) == coreText(impl.Core{Alts: b.Alts}))
			}
		}
	}
}

// The only difference stands far down, far to the right, or both.
func TestSameCoreFarAway(t *testing.T) {
	for name, frame := range coreLevels() {
		for _, levels := range []int{1, 100, 5000} {
			a, b := raised(coreVar("a"), levels, frame), raised(coreVar("b"), levels, frame)
			if impl.SameCore(a, b) || !impl.SameCore(a, raised(coreVar("a"), levels, frame)) || impl.SameCore(a, frame(a)) {
				t.Errorf("%s: %d", name, levels)
			}
		}
	}
	for name, form := range coreForms() {
		a, b := form(40000), form(40000)
		parts := coreParts(&b)
		if !impl.SameCore(a, b) {
			t.Errorf("%s: two are not the same", name)
		}
		last := parts[len(parts)-1]
		last.Name += "'"
		if impl.SameCore(a, b) {
			t.Errorf("%s: two are the same", name)
		}
	}
	long := strings.Repeat("x", 1<<20)
	checkSameCore(t, "long names", coreVar(long+"a"), coreVar(long+"b"), false)
	checkSameCore(t, "long names", coreVar(long+"a"), coreVar(strings.Repeat("x", 1<<20)+"a"), true)
}
