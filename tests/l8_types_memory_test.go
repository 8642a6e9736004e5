package tests

import (
	"cmp"
	"fmt"
	"math/rand/v2"
	"slices"
	"strings"
	"sync"
	"testing"
	"unsafe"

	"loop.example/g00017/impl"
)

// A typeCall has arguments for all functions of the layer.
type typeCall struct {
	a, b  impl.Type
	binds []impl.Bind
	preds []impl.Pred
	keep  []int64
	first int64
}

// typeAnswers are what all functions say to them.
type typeAnswers struct {
	types  []impl.Type // of Apply and Open
	scheme impl.Scheme
	binds  []impl.Bind
	ids    []int64
	texts  []string
	rest   string
}

func (c typeCall) answers() typeAnswers {
	s := impl.Scheme{Count: c.first, Preds: c.preds, Type: c.b}
	unified := impl.Unify(c.a, c.b)
	return typeAnswers{
		types:  []impl.Type{impl.Apply(c.binds, c.a), impl.Open(s, c.first), impl.Apply(nil, c.b)},
		scheme: impl.Close(c.a, c.preds, c.keep),
		binds:  unified.Binds,
		ids:    impl.FreeIds(c.a),
		texts:  []string{impl.FormatType(c.a), impl.FormatScheme(s)},
		rest:   fmt.Sprint(unified.Code, impl.TypeFault(c.a), impl.SameType(c.a, c.b), impl.SameType(c.a, c.a)),
	}
}

func (a typeAnswers) text() string {
	text := fmt.Sprint(a.ids, a.texts, a.rest, bindsText(a.binds), schemeText(a.scheme))
	for _, one := range a.types {
		text += typeText(one)
	}
	return text
}

func (c typeCall) text() string {
	return fmt.Sprint(typeText(c.a), typeText(c.b), bindsText(c.binds), c.preds, c.keep, c.first)
}

// clone copies the arguments, and puts something behind each list, in the room that it could grow into.
func (c typeCall) clone() typeCall {
	own := typeCall{a: roomyType(c.a), b: roomyType(c.b), first: c.first}
	for _, b := range c.binds {
		own.binds = append(own.binds, impl.Bind{Id: b.Id, Type: roomyType(b.Type)})
	}
	for _, p := range c.preds {
		own.preds = append(own.preds, impl.Pred{Class: strings.Clone(p.Class), Id: p.Id})
	}
	own.binds = append(own.binds, impl.Bind{Id: -7, Type: typeCon("behind")})[:len(c.binds)]
	own.preds = append(own.preds, impl.Pred{Class: "behind", Id: -7})[:len(c.preds)]
	own.keep = append(slices.Clone(c.keep), -7)[:len(c.keep)]
	return own
}

func (c typeCall) roomKept() bool {
	binds, preds, keep := c.binds[:len(c.binds)+1], c.preds[:len(c.preds)+1], c.keep[:len(c.keep)+1]
	kept := binds[len(c.binds)].Id == -7 && typeText(binds[len(c.binds)].Type) == "behind" && preds[len(c.preds)] == impl.Pred{Class: "behind", Id: -7} && keep[len(c.keep)] == -7
	return kept && typeRoomKept(c.a) && typeRoomKept(c.b) && !slices.ContainsFunc(c.binds, func(b impl.Bind) bool { return !typeRoomKept(b.Type) })
}

func roomyType(t impl.Type) impl.Type {
	room := make([]impl.Type, 0, len(t.Args)+1)
	for _, arg := range t.Args {
		room = append(room, roomyType(arg))
	}
	return impl.Type{Kind: t.Kind, Id: t.Id, Name: strings.Clone(t.Name), Args: append(room, typeVar(-7))[:len(t.Args)]}
}

func typeRoomKept(t impl.Type) bool {
	behind := t.Args[:len(t.Args)+1][len(t.Args)]
	return behind.Kind == impl.TyVar && behind.Id == -7 && behind.Name == "" && behind.Args == nil && !slices.ContainsFunc(t.Args, func(arg impl.Type) bool { return !typeRoomKept(arg) })
}

// severalCalls draws arguments with faults and without, for each code of Unify.
func severalCalls() []typeCall {
	m := typeMaker{rand.New(rand.NewPCG(8, 8))}
	grown, other := doubling(20, false)
	calls := []typeCall{
		{}, {a: typeVar(0), b: typeVar(1)}, {a: grown, b: other}, {a: typeVar(3), b: nested(impl.MaxDeep-1, typeVar(0))}, {a: wideType(500, typeVar(1)), b: typeVar(2)},
		{a: ty("->{#1 ->{#1 M.T{#2}}}"), b: ty("->{[]{#3} #4}"), binds: bindsOf("1=M.T{#2}|2=M.T{#1}"), preds: predsOf("L.Eq@2 L.Eq@1 L.Eq@2"), keep: []int64{7}, first: 5},
		{a: ty("M.T{#1 #1 #1}"), b: ty("M.T{N.U{V{#2}} #3 #4}"), binds: bindsOf("1=N.U{V{#2}}"), first: 1},
		{a: ty("M.T{#1 #2}"), b: ty("M.T{@0 @1}"), binds: bindsOf("1=N.U{V{#2}}|2=N.U{V{#2}}"), first: 2},
	}
	for i := range 300 {
		c := typeCall{a: m.sound(4, 5), b: m.sound(4, 5), first: m.Int64N(4)}
		if i%5 == 0 {
			c.a = m.any(4)
		}
		if i%3 == 0 {
			c.b = m.sharedParts(c.a, []impl.Bind{{Id: 1, Type: m.partOf(c.a)}})
		}
		for range m.IntN(4) {
			c.binds = append(c.binds, impl.Bind{Id: m.Int64N(5), Type: m.sound(3, 5)})
			c.preds = append(c.preds, impl.Pred{Class: []string{"L.Eq", "L.Ord"}[m.IntN(2)], Id: m.Int64N(5)})
			c.keep = append(c.keep, m.Int64N(9))
		}
		calls = append(calls, c)
	}
	return calls
}

func TestTypeCallsChangeNothing(t *testing.T) {
	for _, c := range severalCalls() {
		own := c.clone()
		got := own.answers()
		if own.text() != c.text() || !own.roomKept() {
			t.Errorf("%s is changed", c.text())
		}
		if got.text() != c.answers().text() {
			t.Errorf("%s hangs on what stands behind a list", c.text())
		}
	}
}

// A memory is where lists and texts lie.
type memory struct{ from, to uintptr }

func memoryOf[T any](list []T) []memory {
	from := uintptr(unsafe.Pointer(unsafe.SliceData(list)))
	if cap(list) == 0 {
		return nil
	}
	return []memory{{from, from + uintptr(cap(list))*unsafe.Sizeof(list[:1][0])}}
}

func textMemory(text string) []memory {
	if text == "" {
		return nil
	}
	return []memory{{addressOf(text), addressOf(text) + uintptr(len(text))}}
}

func typeMemory(t impl.Type) (lists, texts []memory) {
	lists, texts = memoryOf(t.Args), textMemory(t.Name)
	for _, arg := range t.Args {
		moreLists, moreTexts := typeMemory(arg)
		lists, texts = append(lists, moreLists...), append(texts, moreTexts...)
	}
	return lists, texts
}

func typesMemory(types []impl.Type, binds []impl.Bind, preds []impl.Pred) (lists, texts []memory) {
	for _, b := range binds {
		types = append(slices.Clip(types), b.Type)
	}
	for _, one := range types {
		moreLists, moreTexts := typeMemory(one)
		lists, texts = append(lists, moreLists...), append(texts, moreTexts...)
	}
	for _, p := range preds {
		texts = append(texts, textMemory(p.Class)...)
	}
	lists = append(append(lists, memoryOf(binds)...), memoryOf(preds)...)
	return lists, texts
}

func apart(spans []memory) bool {
	slices.SortFunc(spans, func(a, b memory) int { return cmp.Compare(a.from, b.from) })
	for i := 1; i < len(spans); i++ {
		if spans[i].from < spans[i-1].to {
			return false
		}
	}
	return true
}

// touches says whether one of some spans lies in one of others.
func touches(some, others []memory) bool {
	for _, a := range some {
		for _, b := range others {
			if a.from < b.to && b.from < a.to {
				return true
			}
		}
	}
	return false
}

func TestTypeAnswersAreNewMemory(t *testing.T) {
	codes := map[string]int{}
	for _, c := range severalCalls() {
		own := c.clone()
		got := own.answers()
		codes[got.rest[:1]]++
		lists, texts := typesMemory(append(slices.Clone(got.types), got.scheme.Type), got.binds, got.scheme.Preds)
		lists = append(lists, memoryOf(got.ids)...)
		texts = append(texts, append(textMemory(got.texts[0]), textMemory(got.texts[1])...)...)
		givenLists, givenTexts := typesMemory([]impl.Type{own.a, own.b}, own.binds, own.preds)
		givenLists = append(givenLists, memoryOf(own.keep)...)
		if !apart(slices.Clone(lists)) {
			t.Errorf("%s: two lists of answers share memory", c.text())
		}
		if touches(lists, givenLists) || touches(texts, givenTexts) {
			t.Errorf("%s: an answer shares memory with an argument", c.text())
		}
	}
	for _, code := range []string{"0", "1", "2", "3", "4"} {
		if codes[code] == 0 {
			t.Errorf("codes %v", codes)
		}
	}
}

func spoilType(t impl.Type) {
	for _, arg := range t.Args {
		spoilType(arg)
	}
	room := t.Args[:cap(t.Args)]
	for i := range room {
		room[i] = typeCon("spoilt", typeVar(-9))
	}
}

func TestSpoiltTypeAnswers(t *testing.T) {
	for _, c := range severalCalls() {
		own := c.clone()
		got := own.answers()
		want := got.text()
		for _, one := range append(slices.Clone(got.types), got.scheme.Type) {
			spoilType(one)
		}
		for _, b := range got.binds {
			spoilType(b.Type)
		}
		clear(got.binds[:cap(got.binds)])
		clear(got.scheme.Preds[:cap(got.scheme.Preds)])
		clear(got.ids[:cap(got.ids)])
		if again := own.answers().text(); again != want || own.text() != c.text() || !own.roomKept() {
			t.Errorf("%s: %s, not %s", c.text(), again, want)
		}
	}
}

// Calls at the same time and in any order answer alike.
func TestTypeAnswersHangOnArgumentsAlone(t *testing.T) {
	calls := severalCalls()
	var want []string
	for _, c := range calls {
		want = append(want, c.answers().text())
	}
	var all sync.WaitGroup
	for worker := range 8 {
		all.Go(func() {
			for i := range calls {
				at := (i*7 + worker) % len(calls)
				if got := calls[at].answers().text(); got != want[at] {
					t.Errorf("%s answers another way", calls[at].text())
				}
			}
		})
	}
	all.Wait()
}

// Lists without anything are none, as are those of codes.
func TestEmptyTypeAnswers(t *testing.T) {
	opened := impl.Open(impl.Scheme{Type: impl.Type{Kind: impl.TyCon, Name: "T", Args: []impl.Type{}}}, 0)
	applied := impl.Apply([]impl.Bind{}, impl.Type{Kind: impl.TyVar, Args: []impl.Type{}})
	closed := impl.Close(typeCon("T"), []impl.Pred{}, []int64{})
	if opened.Args != nil || applied.Args != nil || closed.Preds != nil || closed.Type.Args != nil || impl.FreeIds(typeCon("T")) != nil || impl.Unify(typeVar(0), typeVar(0)).Binds != nil {
		t.Error("an empty list is not none")
	}
}
