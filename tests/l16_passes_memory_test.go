package tests

import (
	"fmt"
	"slices"
	"strings"
	"sync"
	"testing"

	"loop.example/g00017/impl"
)

// A passCall has arguments for all functions of the layer.
type passCall struct {
	c, by impl.Core
	name  string
	avoid []string
	list  []int64
}

// passAnswers are what they say to them.
type passAnswers struct {
	terms []impl.Core // each an answer of its own
	names []string
	fresh string
	pass  string
	rest  string
}

func (c passCall) answers() passAnswers {
	a := passAnswers{names: impl.AllNames(c.c), fresh: impl.Fresh(c.name, c.avoid)}
	a.terms = append(a.terms, impl.Subst(c.c, c.name, c.by))
	for p := range int64(8) {
		one := impl.RunPass(c.c, p)
		a.terms = append(a.terms, one.Core)
		a.rest += fmt.Sprint(one.Code, impl.PassName(p), " ")
	}
	all := impl.RunPasses(c.c, c.list)
	a.terms = append(a.terms, all.Core)
	a.rest += fmt.Sprint(all.Code, impl.StrictIn(c.c, c.name))
	return a
}

func (a passAnswers) all() string {
	var text strings.Builder
	fmt.Fprintf(&text, "%q %q %s", a.names, a.fresh, a.rest)
	for _, c := range a.terms {
		text.WriteString(coreText(c))
	}
	return text.String()
}

func (c passCall) text() string {
	return fmt.Sprintf("%s %s %q %q %v", coreText(c.c), coreText(c.by), c.name, c.avoid, c.list)
}

func (c passCall) clone() passCall {
	return passCall{roomyCore(c.c), roomyCore(c.by), strings.Clone(c.name), roomy(c.avoid, "behind", strings.Clone), roomy(c.list, 7, func(p int64) int64 { return p })}
}

func (c passCall) roomKept() bool {
	return coreRoomKept(c.c) && coreRoomKept(c.by) && roomBehind(c.avoid) == "behind" && roomBehind(c.list) == 7
}

// passCalls has terms with faults and without, at which rules apply and not.
func passCalls() []passCall {
	m, spoiler := newPassMaker(10), newCoreMaker(20)
	var calls []passCall
	for i := range 500 {
		c, by := m.term(1+i%6), m.term(i%4)
		if i%10 == 3 {
			c = spoiler.spoilt(c)
		}
		if i%10 == 7 {
			by = spoiler.spoilt(by)
		}
		list := passLists()[i%11]
		if i%9 == 8 {
			list = append(slices.Clone(list), int64(i%12))
		}
		calls = append(calls, passCall{c, by, m.some(1, 1)[0], m.some(0, 6), list})
	}
	for _, c := range plainCores() {
		calls = append(calls, passCall{c, c, "x", []string{"x", "x'"}, []int64{1, 2, 3, 4, 5, 6}})
	}
	return calls
}

func TestPassesChangeNothing(t *testing.T) {
	t.Parallel()
	for _, c := range passCalls() {
		own := c.clone()
		got := own.answers().all()
		if own.text() != c.text() || !own.roomKept() {
			t.Errorf("%s is changed", c.text())
		}
		if got != c.answers().all() {
			t.Errorf("%s hangs on what stands behind a list", c.text())
		}
	}
}

func TestPassAnswersAreNewMemory(t *testing.T) {
	t.Parallel()
	for _, c := range passCalls() {
		own := c.clone()
		got := own.answers()
		givenLists, givenTexts := coreMemory(own.c)
		moreLists, moreTexts := coreMemory(own.by)
		givenLists = slices.Concat(givenLists, moreLists, memoryOf(own.avoid), memoryOf(own.list))
		givenTexts = slices.Concat(append(memoriesOf(own.avoid), givenTexts, moreTexts, textMemory(own.name))...)
		for _, term := range got.terms {
			lists, texts := coreMemory(term)
			if !apart(slices.Clone(lists)) {
				t.Errorf("%s: two lists of %s share memory", c.text(), shortCore(term))
			}
			if touches(lists, givenLists) || touches(texts, givenTexts) {
				t.Errorf("%s: %s shares memory with an argument", c.text(), shortCore(term))
			}
		}
		texts := slices.Concat(append(memoriesOf(got.names), textMemory(got.fresh))...)
		if touches(memoryOf(got.names), givenLists) || touches(texts, givenTexts) {
			t.Errorf("%s: names share memory with an argument", c.text())
		}
	}
}

func TestSpoiltPassAnswers(t *testing.T) {
	t.Parallel()
	for _, c := range passCalls() {
		own := c.clone()
		got := own.answers()
		want := got.all()
		for _, term := range got.terms {
			spoilCore(term)
		}
		clear(got.names[:cap(got.names)])
		if again := own.answers().all(); again != want || own.text() != c.text() || !own.roomKept() {
			t.Errorf("%s: %s, not %s", c.text(), again, want)
		}
		kept := own.answers()
		spoilCore(own.c)
		spoilCore(own.by)
		clear(own.avoid)
		if kept.all() != want {
			t.Errorf("%s: an answer turns with an argument", c.text())
		}
	}
}

// Calls at the same time and in any order answer alike.
func TestPassesHangOnArgumentsAlone(t *testing.T) {
	t.Parallel()
	calls := passCalls()
	var want []string
	for _, c := range calls {
		want = append(want, c.answers().all())
	}
	var all sync.WaitGroup
	for worker := range 6 {
		all.Go(func() {
			for i := range calls {
				at := (i*7 + worker) % len(calls)
				if got := calls[at].answers().all(); got != want[at] {
					t.Errorf("%s answers another way", calls[at].text())
				}
			}
		})
	}
	all.Wait()
}

// What is put in many places is apart in each of them, and one list in many places of an argument, too.
func TestPassAnswersOfSharedLists(t *testing.T) {
	kid := readCore(`(C 12345678901234567890 (\x y -> (case x of v { A a b -> y; _ -> v })))`)
	many := coreCon("M", slices.Repeat([]impl.Core{coreVar("z")}, 300)...)
	put := impl.Subst(many, "z", kid)
	shared := coreCon("M", slices.Repeat([]impl.Core{kid, coreApp(coreLam("z", kid), kid)}, 100)...)
	names := []string{"a", "b"}
	lam := impl.Core{Kind: impl.CLam, Names: names, Kids: []impl.Core{coreVar("z")}}
	let := impl.Core{Kind: impl.CLet, Names: names, Kids: []impl.Core{lam, lam, coreApp(lam, coreVar("a"))}}
	answers := []impl.Core{put, impl.Subst(shared, "z", kid), impl.Subst(let, "z", coreApp(coreVar("a"), coreVar("b")))}
	for p := int64(1); p <= 6; p++ {
		answers = append(answers, impl.RunPass(shared, p).Core, impl.RunPass(let, p).Core)
	}
	for i, c := range answers {
		if lists, _ := coreMemory(c); !apart(lists) {
			t.Errorf("answer %d: two lists share memory", i)
		}
	}
	if len(coreLists(nil, &put)) < 300*6 || impl.FormatCore(impl.Core{Kind: impl.CLet, Names: names, Kids: let.Kids}) != impl.FormatCore(let) {
		t.Error("what was put")
	}
}

// Terms that come back to themselves, or are far too large or deep, are told as faulty, and given back.
func TestPassesOfEndlessTerms(t *testing.T) {
	good := coreApp(coreVar("x"), coreInt(1))
	far := raised(coreVar("x"), 100000, coreLevels()["argument"])
	wide := coreCon("C", slices.Repeat([]impl.Core{coreVar("x")}, 300000)...)
	for i, c := range []impl.Core{roundCore(1, false), roundCore(3, true), roundCore(1000, false), far, wide} {
		for p := range int64(8) {
			if got := impl.RunPass(c, p); got.Code != 1 || got.Core.Kind != 0 {
				t.Errorf("term %d, pass %d: code %d", i, p, got.Code)
			}
		}
		if got := impl.RunPasses(c, make([]int64, 50)); got.Code != 1 {
			t.Errorf("term %d: code %d", i, got.Code)
		}
		if impl.AllNames(c) != nil || impl.StrictIn(c, "x") {
			t.Errorf("term %d has names", i)
		}
		if got := impl.Subst(good, "x", c); coreText(got) != coreText(good) {
			t.Errorf("term %d came in", i)
		}
		if got := impl.Subst(c, "x", good); !impl.SameCore(got, c) || touches(memoryOf(got.Kids), memoryOf(c.Kids)) || touches(memoryOf(got.Alts), memoryOf(c.Alts)) {
			t.Errorf("term %d is given back another way", i)
		}
	}
}
