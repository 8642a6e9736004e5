package tests

import (
	"fmt"
	"slices"
	"strings"
	"sync"
	"testing"

	"loop.example/g00017/impl"
)

// roomyCore copies a term, and puts something behind each list, in the room that it could grow into.
func roomyCore(c impl.Core) impl.Core {
	behind := impl.Core{Kind: -7, Name: "behind"}
	own := impl.Core{Kind: c.Kind, Name: strings.Clone(c.Name), Big: impl.Big{Minus: c.Big.Minus}}
	own.Big.Limbs = roomy(c.Big.Limbs, 7, func(limb uint32) uint32 { return limb })
	own.Names = roomy(c.Names, "behind", strings.Clone)
	own.Kids = roomy(c.Kids, behind, roomyCore)
	own.Alts = roomy(c.Alts, impl.CoreAlt{Con: "behind", Body: behind}, func(alt impl.CoreAlt) impl.CoreAlt {
		return impl.CoreAlt{Con: strings.Clone(alt.Con), Names: roomy(alt.Names, "behind", strings.Clone), Body: roomyCore(alt.Body)}
	})
	return own
}

func roomBehind[T any](list []T) T { return list[:len(list)+1][len(list)] }

func coreRoomKept(c impl.Core) bool {
	kid, alt := roomBehind(c.Kids), roomBehind(c.Alts)
	kept := roomBehind(c.Big.Limbs) == 7 && roomBehind(c.Names) == "behind" && coreText(kid) == coreText(impl.Core{Kind: -7, Name: "behind"}) && alt.Con == "behind" && alt.Names == nil && coreText(alt.Body) == coreText(kid)
	for _, alt := range c.Alts {
		kept = kept && roomBehind(alt.Names) == "behind"
	}
	return kept && !slices.ContainsFunc(belowCore(c), func(part impl.Core) bool { return !coreRoomKept(part) })
}

// A coreCall has arguments for all functions of the layer.
type coreCall struct {
	a, b     impl.Core
	from, to string
}

// coreAnswers are what they say to them.
type coreAnswers struct {
	renamed impl.Core
	names   []string
	text    string
	rest    string
}

func (c coreCall) answers() coreAnswers {
	return coreAnswers{
		renamed: impl.Rename(c.a, c.from, c.to),
		names:   impl.FreeNames(c.a),
		text:    impl.FormatCore(c.a),
		rest:    fmt.Sprint(impl.CoreFault(c.a), impl.CoreSize(c.a), impl.SameCore(c.a, c.b), impl.SameCore(c.b, c.a), impl.SameCore(c.a, c.a), impl.PrimCount(c.a.Name)),
	}
}

func (a coreAnswers) all() string {
	return fmt.Sprintf("%s %q %q %s", coreText(a.renamed), a.names, a.text, a.rest)
}

func (c coreCall) text() string {
	return fmt.Sprintf("%s %s %q %q", coreText(c.a), coreText(c.b), c.from, c.to)
}

func (c coreCall) clone() coreCall {
	return coreCall{roomyCore(c.a), roomyCore(c.b), strings.Clone(c.from), strings.Clone(c.to)}
}

func (c coreCall) roomKept() bool { return coreRoomKept(c.a) && coreRoomKept(c.b) }

// coreCalls has terms with faults and without, of which names are free and not.
func coreCalls() []coreCall {
	terms := severalCores()
	turns := [][2]string{{"a", "b"}, {"b", "other"}, {"c", ""}, {"d", "d"}, {"x", "y"}}
	var calls []coreCall
	for i, c := range terms {
		turn := turns[i%len(turns)]
		calls = append(calls, coreCall{c, terms[(i*7+i%2)%len(terms)], turn[0], turn[1]})
	}
	for _, c := range terms[:100] {
		calls = append(calls, coreCall{c, c, "a", "other"})
	}
	return calls
}

func TestCoreCallsChangeNothing(t *testing.T) {
	for _, c := range coreCalls() {
		own := c.clone()
		got := own.answers().all()
		if own.text() != c.text() || !own.roomKept() {
			t.Errorf("%s is changed", c.text())
		}
		if got != c.answers().all() {
			t.Errorf("%s hangs on what stands behind a list", c.text())
		}
	}
}

// coreMemory has where all lists and texts of a term lie.
func coreMemory(c impl.Core) (lists, texts []memory) {
	lists = slices.Concat(memoryOf(c.Big.Limbs), memoryOf(c.Names), memoryOf(c.Kids), memoryOf(c.Alts))
	texts = slices.Concat(append(memoriesOf(c.Names), textMemory(c.Name))...)
	for _, alt := range c.Alts {
		lists = append(lists, memoryOf(alt.Names)...)
		texts = slices.Concat(append(memoriesOf(alt.Names), texts, textMemory(alt.Con))...)
	}
	for _, part := range belowCore(c) {
		moreLists, moreTexts := coreMemory(part)
		lists, texts = append(lists, moreLists...), append(texts, moreTexts...)
	}
	return lists, texts
}

func TestCoreAnswersAreNewMemory(t *testing.T) {
	for _, c := range coreCalls() {
		own := c.clone()
		got := own.answers()
		lists, texts := coreMemory(got.renamed)
		lists = append(lists, memoryOf(got.names)...)
		texts = slices.Concat(append(memoriesOf(got.names), texts, textMemory(got.text))...)
		givenLists, givenTexts := coreMemory(own.a)
		givenTexts = slices.Concat(givenTexts, textMemory(own.from), textMemory(own.to))
		if !apart(slices.Clone(lists)) {
			t.Errorf("%s: two lists of answers share memory", c.text())
		}
		if touches(lists, givenLists) || touches(texts, givenTexts) {
			t.Errorf("%s: an answer shares memory with an argument", c.text())
		}
	}
}

// spoilCore overwrites all that lists of a term have room for.
func spoilCore(c impl.Core) {
	for _, part := range belowCore(c) {
		spoilCore(part)
	}
	for _, alt := range c.Alts {
		clear(alt.Names[:cap(alt.Names)])
	}
	clear(c.Big.Limbs[:cap(c.Big.Limbs)])
	clear(c.Names[:cap(c.Names)])
	clear(c.Kids[:cap(c.Kids)])
	clear(c.Alts[:cap(c.Alts)])
}

func TestSpoiltCoreAnswers(t *testing.T) {
	for _, c := range coreCalls() {
		own := c.clone()
		got := own.answers()
		want := got.all()
		spoilCore(got.renamed)
		clear(got.names[:cap(got.names)])
		if again := own.answers().all(); again != want || own.text() != c.text() || !own.roomKept() {
			t.Errorf("%s: %s, not %s", c.text(), again, want)
		}
	}
}

// Calls at the same time and in any order answer alike.
func TestCoreAnswersHangOnArgumentsAlone(t *testing.T) {
	calls := coreCalls()
	var want []string
	for _, c := range calls {
		want = append(want, c.answers().all())
	}
	var all sync.WaitGroup
	for worker := range 8 {
		all.Go(func() {
			for i := range calls {
				at := (i*7 + worker) % len(calls)
				if got := calls[at].answers().all(); got != want[at] {
					t.Errorf("%s answers another way", calls[at].text())
				}
			}
		})
	}
	all.Wait()
}
