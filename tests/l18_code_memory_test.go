package tests

import (
	"fmt"
	"math/rand/v2"
	"slices"
	"strings"
	"sync"
	"testing"

	"loop.example/g00017/impl"
)

// roomyForms copies forms, and puts something behind each list, in the room that it could grow into.
func roomyForms(list []impl.Form) []impl.Form {
	return roomy(list, impl.Form{Slots: -7}, func(form impl.Form) impl.Form {
		form.Body = roomyCode(form.Body)
		return form
	})
}

func roomyCode(c impl.Code) impl.Code {
	behind := impl.Code{Kind: -7}
	c.Name = strings.Clone(c.Name)
	c.Big.Limbs = roomy(c.Big.Limbs, 7, func(limb uint32) uint32 { return limb })
	c.Refs = roomy(c.Refs, -7, func(ref int64) int64 { return ref })
	c.Kids = roomy(c.Kids, behind, roomyCode)
	c.Alts = roomy(c.Alts, impl.CodeAlt{First: -7}, func(alt impl.CodeAlt) impl.CodeAlt {
		return impl.CodeAlt{Con: strings.Clone(alt.Con), First: alt.First, Count: alt.Count, Body: roomyCode(alt.Body)}
	})
	return c
}

func codeRoomKept(c impl.Code) bool {
	kept := roomBehind(c.Big.Limbs) == 7 && roomBehind(c.Refs) == -7 && roomBehind(c.Kids).Kind == -7 && roomBehind(c.Alts).First == -7
	return kept && !slices.ContainsFunc(belowCode(c), func(part impl.Code) bool { return !codeRoomKept(part) })
}

func formsRoomKept(list []impl.Form) bool {
	return roomBehind(list).Slots == -7 && !slices.ContainsFunc(list, func(form impl.Form) bool { return !codeRoomKept(form.Body) })
}

// codeMemory has where all lists and texts of a code lie.
func codeMemory(c impl.Code) (lists, texts []memory) {
	lists = slices.Concat(memoryOf(c.Big.Limbs), memoryOf(c.Refs), memoryOf(c.Kids), memoryOf(c.Alts))
	texts = textMemory(c.Name)
	for _, alt := range c.Alts {
		texts = append(texts, textMemory(alt.Con)...)
	}
	for _, part := range belowCode(c) {
		moreLists, moreTexts := codeMemory(part)
		lists, texts = append(lists, moreLists...), append(texts, moreTexts...)
	}
	return lists, texts
}

func formsMemory(list []impl.Form) (lists, texts []memory) {
	lists = memoryOf(list)
	for _, form := range list {
		moreLists, moreTexts := codeMemory(form.Body)
		lists, texts = append(lists, moreLists...), append(texts, moreTexts...)
	}
	return lists, texts
}

// spoilForms overwrites all that lists of forms have room for.
func spoilForms(list []impl.Form) {
	for _, form := range list {
		spoilCode(form.Body)
	}
	clear(list[:cap(list)])
}

func spoilCode(c impl.Code) {
	for _, part := range belowCode(c) {
		spoilCode(part)
	}
	clear(c.Big.Limbs[:cap(c.Big.Limbs)])
	clear(c.Refs[:cap(c.Refs)])
	clear(c.Kids[:cap(c.Kids)])
	clear(c.Alts[:cap(c.Alts)])
}

// someTerms has terms with faults and without, closed and not.
func someTerms() []impl.Core {
	list := append(severalCores()[:300], readCore("(C 12345678901234567890 (let x = -12345678901234567890 in (f x)))"))
	closedTerms(1850, 60, func(c impl.Core) { list = append(list, c) })
	return list
}

// someForms has lists of forms with faults and without.
func someForms() [][]impl.Form {
	m, changes := rand.New(rand.NewPCG(18, 1860)), formsChanges()
	lists := [][]impl.Form{nil, {}, {{}}}
	closedTerms(1860, 60, func(c impl.Core) {
		list := impl.FormsOf(c)
		own := cloneForms(list)
		form := &own[m.IntN(len(own))]
		parts := codeParts(&form.Body)
		changes[m.IntN(len(changes))](m, form, parts[m.IntN(len(parts))])
		lists = append(lists, list, own)
	})
	return lists
}

func formsAnswers(list []impl.Form) string {
	return fmt.Sprint(impl.FormFault(list), impl.FormatForms(list))
}

func TestFormCallsChangeNothing(t *testing.T) {
	for _, c := range someTerms() {
		own := roomyCore(c)
		got := formsText(impl.FormsOf(own))
		if coreText(own) != coreText(c) || !coreRoomKept(own) {
			t.Errorf("%s is changed", coreText(c))
		}
		if got != formsText(impl.FormsOf(c)) {
			t.Errorf("the forms of %s hang on what stands behind a list", coreText(c))
		}
	}
	for _, list := range someForms() {
		own := roomyForms(list)
		got := formsAnswers(own)
		if formsText(own) != formsText(list) || !formsRoomKept(own) {
			t.Errorf("%s is changed", formsText(list))
		}
		if got != formsAnswers(list) {
			t.Errorf("what is told of %s hangs on what stands behind a list", formsText(list))
		}
	}
}

func TestFormAnswersAreNewMemory(t *testing.T) {
	for _, c := range someTerms() {
		own := roomyCore(c)
		lists, texts := formsMemory(impl.FormsOf(own))
		givenLists, givenTexts := coreMemory(own)
		if !apart(slices.Clone(lists)) {
			t.Errorf("%s: two lists of the forms share memory", coreText(c))
		}
		if touches(lists, givenLists) || touches(texts, givenTexts) {
			t.Errorf("%s: the forms share memory with the term", coreText(c))
		}
	}
	for _, list := range someForms() {
		own := roomyForms(list)
		_, givenTexts := formsMemory(own)
		if touches(textMemory(impl.FormatForms(own)), givenTexts) {
			t.Errorf("%s: the text shares memory with the forms", formsText(list))
		}
	}
}

// One list, one number or one text that stands in many places of a term gives each place memory of its own where it could be written through.
func TestFormsOfSharedTerms(t *testing.T) {
	great := impl.Core{Kind: impl.CInt, Big: impl.BigRead("123456789012345678901234567890").Big}
	kids := []impl.Core{great, coreCon("C", great), coreString("text"), coreChar("c")}
	alts := []impl.CoreAlt{{Con: "A", Names: []string{"a"}, Body: great}, {Con: "B", Names: []string{"a"}, Body: coreVar("a")}}
	c := coreCon("D", coreCon("E", kids...), coreApp(kids...), impl.Core{Kind: impl.CCase, Kids: kids[:2], Alts: alts}, impl.Core{Kind: impl.CCase, Kids: kids[:1], Alts: alts}, impl.Core{Kind: impl.CLet, Names: []string{"x"}, Kids: kids[:2]})
	list := checkForms(t, c)
	want := formsText(list)
	lists, _ := formsMemory(list)
	given, _ := coreMemory(c)
	if !apart(slices.Clone(lists)) || touches(lists, given) {
		t.Error("two lists share memory")
	}
	again := impl.FormsOf(c)
	spoilForms(list)
	if formsText(again) != want || formsText(impl.FormsOf(c)) != want {
		t.Error("another answer is spoilt")
	}
}

func TestSpoiltFormAnswers(t *testing.T) {
	for _, c := range someTerms() {
		own := roomyCore(c)
		got := impl.FormsOf(own)
		want := formsText(got)
		spoilForms(got)
		if again := formsText(impl.FormsOf(own)); again != want || coreText(own) != coreText(c) || !coreRoomKept(own) {
			t.Errorf("%s: %s, not %s", coreText(c), again, want)
		}
	}
}

// Calls at the same time and in any order answer alike.
func TestFormAnswersHangOnArgumentsAlone(t *testing.T) {
	t.Parallel()
	terms, lists := someTerms(), someForms()
	var want []string
	for _, c := range terms {
		want = append(want, formsText(impl.FormsOf(c)))
	}
	for _, list := range lists {
		want = append(want, formsAnswers(list))
	}
	var all sync.WaitGroup
	for worker := range 6 {
		all.Go(func() {
			for i := range want {
				at := (i*7 + worker) % len(want)
				got := ""
				if at < len(terms) {
					got = formsText(impl.FormsOf(terms[at]))
				} else {
					got = formsAnswers(lists[at-len(terms)])
				}
				if got != want[at] {
					t.Errorf("call %d answers another way: %s, not %s", at, got, want[at])
				}
			}
		})
	}
	all.Wait()
}

// Terms that come back to themselves, or are far too large or deep, have no forms.
func TestFormsOfEndlessTerms(t *testing.T) {
	one := coreInt(1)
	far := raised(one, 100000, coreLevels()["argument"])
	wide := coreApp(slices.Repeat([]impl.Core{one}, 300000)...)
	for i, c := range []impl.Core{roundCore(1, false), roundCore(3, true), roundCore(1000, false), roundCore(2, false, one), roundCore(2, true, one), far, wide, coreLam("x", roundCore(1, true, one))} {
		if got := impl.FormsOf(c); len(got) != 0 {
			t.Errorf("term %d has %d forms", i, len(got))
		}
	}
}

// A text that stands in very many places is there once in the forms, too.
func TestFormsOfLongNames(t *testing.T) {
	name := "C" + strings.Repeat("c", 1000000)
	list := impl.FormsOf(severalOf(19000, coreCon(name)))
	if len(list) != 1 || list[0].Slots != 19000 || list[0].Body.Kids[0].Name != name {
		t.Errorf("%d forms", len(list))
	}
}
