package tests

import (
	"math/rand/v2"
	"strings"
	"sync"
	"testing"

	"loop.example/g00017/impl"
)

// laden has a term that tells what another one tells, and then a text of so many chars, which is held as long: so that there is little room in a small heap.
func laden(c impl.Core, mode int64, chars int) impl.Core {
	told := coreApp(coreVar("app"), c, coreVar("load"))
	if mode == 2 {
		told = coreApp(coreVar("app"), coreApp(c, coreVar("input")), coreVar("load"))
	}
	body := corePrim("primSeq", coreVar("load"), told)
	if mode == 2 {
		body = coreLam("input", body)
	}
	app := readCore(`(\a b -> (case a of { [] -> b; : x y -> (: x (app y b)) }))`)
	return coreLet("app load", app, coreString(strings.Repeat("load", 20)[:chars]), body)
}

// checkStandsFor asks for promise 16 of a term. Where neither ends for want of steps or waiting room both tell the same.
func checkStandsFor(t *testing.T, c impl.Core, r slowRun, steps int64) {
	t.Helper()
	want, got := impl.Meaning(c, r.mode, r.input, steps), r.answer().Outcome
	isShort := want.End == impl.EndSteps || want.End == impl.EndDeep || got.End == impl.EndSteps || got.End == impl.EndDeep
	if want.End == impl.EndBad || !impl.Stands(want, got) || !isShort && (got.End != want.End || got.Out != want.Out || got.Error != want.Error) {
		t.Errorf("%s\nmeans %.300v, its forms tell %.300v", shortCore(c), want, got)
	}
	if isShort && !strings.HasPrefix(got.Out, want.Out) && !strings.HasPrefix(want.Out, got.Out) {
		t.Errorf("%s\nmeans %.300v, its forms tell %.300v", shortCore(c), want, got)
	}
}

// checkDrawnRun asks for promises 16 and 17 of a closed term, and holds its runs against the second reading, in the heap that just suffices too.
func checkDrawnRun(t *testing.T, c impl.Core, mode, steps int64) impl.RunResult {
	t.Helper()
	r := slowRun{impl.FormsOf(c), mode, "input", 4 * steps, 20000}
	got := r.check(t)
	checkStandsFor(t, c, r, steps)
	r.checkSteps(t)
	if got.Outcome.End == impl.EndHeap {
		return got
	}
	least := r.checkHeaps(t)
	for _, heap := range []int64{least - 1, least, least + 1, least + 3} {
		r.heap = max(heap, 100)
		again := r.check(t)
		if again.Collections > 0 && again.Outcome.End != impl.EndHeap {
			got.Collections = again.Collections
		}
	}
	return got
}

func TestDrawnTypedTermsRun(t *testing.T) {
	t.Parallel()
	var lock sync.Mutex
	ends, collected, told := map[int64]int{}, 0, 0
	var all sync.WaitGroup
	for worker := range uint64(8) {
		all.Go(func() {
			m := newMeantMaker(1900 + worker)
			for i := range 130 {
				c, mode := m.drawn(3 + i%9)
				if i%3 > 0 {
					c = laden(c, mode, 30+m.IntN(40))
				}
				got := checkDrawnRun(t, c, mode, 2000)
				lock.Lock()
				ends[got.Outcome.End]++
				collected += int(min(got.Collections, 1))
				told += min(len(got.Outcome.Out), 1)
				lock.Unlock()
			}
		})
	}
	all.Wait()
	for _, end := range []int64{impl.EndDone, impl.EndError, impl.EndLoop, impl.EndSteps, impl.EndStuck} {
		if ends[end] < 3 {
			t.Errorf("few end %d: %v", end, ends)
		}
	}
	if collected < 300 || told < 300 {
		t.Errorf("of %v %d make collections, %d tell something", ends, collected, told)
	}
}

// Terms without a type get stuck where they mean to.
func TestDrawnUntypedTermsRun(t *testing.T) {
	t.Parallel()
	ends, collected := map[int64]int{}, 0
	closedTerms(1910, 90, func(c impl.Core) {
		told := coreCon(":", coreChar("a"), coreCon(":", coreCase("", []impl.Core{c}, coreAlt("C x", coreChar("b")), coreAlt("A", coreChar("c"))), c))
		for _, one := range []impl.Core{c, told, laden(told, 1, 45), laden(c, 2, 47)} {
			for mode := int64(1); mode <= 2; mode++ {
				got := checkDrawnRun(t, one, mode, 1000)
				ends[got.Outcome.End]++
				collected += int(min(got.Collections, 1))
			}
		}
	})
	for _, end := range []int64{impl.EndDone, impl.EndError, impl.EndLoop, impl.EndStuck} {
		if ends[end] < 30 {
			t.Errorf("few end %d: %v", end, ends)
		}
	}
	if collected < 100 {
		t.Errorf("%d make collections", collected)
	}
}

// A formMaker draws forms that no term has, most of them: any code in any place, with slots that most often have something.
type formMaker struct {
	*rand.Rand
	forms []impl.Form
	slots int64
	full  []int64 // slots that have something
}

func (m *formMaker) slot() int64 {
	if len(m.full) == 0 || m.IntN(40) == 0 {
		return m.Int64N(m.slots)
	}
	return m.full[m.IntN(len(m.full))]
}

func (m *formMaker) refs(count int) []int64 {
	var list []int64
	for range count {
		list = append(list, m.slot())
	}
	return list
}

// first has the first of some slots that the form has.
func (m *formMaker) first(count int64) int64 { return m.Int64N(m.slots - count + 1) }

// filling draws what stands where slots have something more.
func (m *formMaker) filling(first, count int64, draw func() impl.Code) impl.Code {
	before := m.full
	m.full = append([]int64(nil), before...)
	for i := range count {
		m.full = append(m.full, first+i)
	}
	c := draw()
	m.full = before
	return c
}

func (m *formMaker) con() impl.Code {
	name := strings.Fields(": : : [] [] A P True False")[m.IntN(9)]
	count := map[string]int{":": 2, "P": 1 + m.IntN(2)}[name]
	return impl.Code{Kind: impl.KCon, Name: name, Refs: m.refs(count)}
}

func (m *formMaker) text() impl.Code {
	count := []int{0, 1, 2, 5, 20, 35, 46, 48, 49}[m.IntN(9)]
	return impl.Code{Kind: impl.KText, Name: strings.Repeat("text", 20)[:count]}
}

// made draws what a let makes.
func (m *formMaker) made() impl.Code {
	switch m.IntN(6) {
	case 0:
		return impl.Code{Kind: impl.KInt, Big: impl.BigOf(m.Int64N(300) - 20)}
	case 1:
		return impl.Code{Kind: impl.KChar, Name: string([]byte{byte('a' + m.IntN(3))})}
	case 2:
		return m.con()
	}
	number := m.Int64N(int64(len(m.forms)))
	return impl.Code{Kind: impl.KMake, A: number, Refs: m.refs(int(m.forms[number].Free))}
}

func (m *formMaker) code(levels int) impl.Code {
	if levels <= 0 {
		return m.leaf()
	}
	switch m.IntN(8) {
	case 0, 1, 2:
		count := 1 + m.Int64N(min(3, m.slots))
		made := impl.Code{Kind: impl.KLet, A: m.first(count)}
		return m.filling(made.A, count, func() impl.Code {
			for range count {
				made.Kids = append(made.Kids, m.made())
			}
			made.Kids = append(made.Kids, m.code(levels-1))
			return made
		})
	case 3, 4, 5:
		return m.choice(levels - 1)
	}
	return m.leaf()
}

func (m *formMaker) choice(levels int) impl.Code {
	made := impl.Code{Kind: impl.KCase, A: m.first(1), Kids: []impl.Code{m.code(levels)}}
	count := int64(1)
	if m.IntN(3) == 0 {
		made.A, count = -1, 0
	}
	return m.filling(max(made.A, 0), count, func() impl.Code {
		for range m.IntN(4) {
			alt := impl.CodeAlt{Con: strings.Fields(": : [] A P True False")[m.IntN(7)]}
			alt.Count = min(map[string]int64{":": 2, "P": 1 + m.Int64N(2)}[alt.Con], m.slots)
			alt.First = m.first(alt.Count)
			alt.Body = m.filling(alt.First, alt.Count, func() impl.Code { return m.code(levels) })
			made.Alts = append(made.Alts, alt)
		}
		if len(made.Alts) == 0 || m.IntN(3) > 0 {
			made.Kids = append(made.Kids, m.code(levels))
		}
		return made
	})
}

func (m *formMaker) leaf() impl.Code {
	switch m.IntN(10) {
	case 0, 1:
		return impl.Code{Kind: impl.KSlot, A: m.slot()}
	case 2, 3, 4:
		return impl.Code{Kind: impl.KApp, A: m.slot(), Refs: m.refs(1 + m.IntN(3))}
	case 5, 6:
		name := strings.Fields("primAdd primSub primMul primDiv primMod primEq primLess primSeq primOrd primChr primShow primError")[m.IntN(12)]
		return impl.Code{Kind: impl.KPrim, Name: name, Refs: m.refs(int(impl.PrimCount(name)))}
	case 7:
		return m.text()
	case 8:
		return m.con()
	}
	return impl.Code{Kind: impl.KInt, Big: impl.BigOf(m.Int64N(9))}
}

// list draws some forms.
func (m *formMaker) list() []impl.Form {
	m.forms = make([]impl.Form, 2+m.IntN(4))
	for i := range m.forms {
		form := &m.forms[i]
		if i > 0 {
			form.Free, form.Params = m.Int64N(3), max(0, m.Int64N(4)-1)
		}
		form.Slots = form.Free + form.Params + 1 + m.Int64N(4)
	}
	for i := range m.forms {
		form := &m.forms[i]
		m.slots, m.full = form.Slots, nil
		form.Body = m.filling(0, form.Free+form.Params, func() impl.Code { return m.code(1 + m.IntN(4)) })
	}
	m.forms[0].Body = m.around(m.forms[0].Body)
	return m.forms
}

// around lets most slots of the first form have something.
func (m *formMaker) around(c impl.Code) impl.Code {
	made := impl.Code{Kind: impl.KLet}
	m.slots = m.forms[0].Slots
	return m.filling(0, m.slots, func() impl.Code {
		for range m.slots {
			made.Kids = append(made.Kids, m.made())
		}
		made.Kids = append(made.Kids, c)
		return made
	})
}

// Forms that no term has are run as the second reading runs them, in heaps in which there is hardly room.
func TestDrawnFormsRun(t *testing.T) {
	t.Parallel()
	var lock sync.Mutex
	ends, kinds, collected, long := map[int64]int{}, map[int64]int{}, 0, 0
	var all sync.WaitGroup
	for worker := range uint64(8) {
		all.Go(func() {
			m := &formMaker{Rand: rand.New(rand.NewPCG(19, worker))}
			for range 2500 {
				list := m.list()
				r := slowRun{list, 1 + m.Int64N(2), strings.Repeat("input", 10)[:m.IntN(50)], 700, 100 + m.Int64N(60)}
				got := r.check(t)
				r.heap = 100
				small := r.check(t)
				if m.IntN(20) == 0 {
					r.checkSteps(t)
				}
				lock.Lock()
				ends[got.Outcome.End]++
				for i := range list {
					for _, code := range codeParts(&list[i].Body) {
						kinds[code.Kind]++
					}
				}
				collected += int(min(got.Collections, 1)) + int(min(small.Collections, 1))
				if got.Outcome.Steps > 20 {
					long++
				}
				lock.Unlock()
			}
		})
	}
	all.Wait()
	if ends[impl.EndBad] > 0 || collected < 1000 || long < 1000 || len(kinds) != 10 {
		t.Errorf("%v, %d with collections, %d long ones, kinds %v", ends, collected, long, kinds)
	}
	for _, end := range []int64{impl.EndDone, impl.EndError, impl.EndLoop, impl.EndSteps, impl.EndStuck, impl.EndHeap} {
		if ends[end] < 30 {
			t.Errorf("few end %d: %v", end, ends)
		}
	}
}

// One thing is turned somewhere in the forms of a term.
func TestRunsOfTurnedForms(t *testing.T) {
	t.Parallel()
	m, changes, ends := rand.New(rand.NewPCG(19, 1930)), formsChanges(), map[int64]int{}
	closedTerms(1930, 150, func(c impl.Core) {
		list := impl.FormsOf(laden(c, 1, 40+m.IntN(9)))
		for range 10 {
			own := cloneForms(list)
			form := &own[m.IntN(len(own))]
			parts := codeParts(&form.Body)
			changes[m.IntN(len(changes))](m, form, parts[m.IntN(len(parts))])
			got := slowRun{own, 1, "", 1000, 100 + m.Int64N(15)}.check(t)
			ends[got.Outcome.End]++
		}
	})
	for _, end := range []int64{impl.EndDone, impl.EndStuck, impl.EndBad, impl.EndHeap} {
		if ends[end] < 50 {
			t.Errorf("few end %d: %v", end, ends)
		}
	}
}
