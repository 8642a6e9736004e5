package tests

import (
	"math/rand/v2"
	"runtime"
	"slices"
	"strings"
	"sync"
	"testing"
	"time"

	"loop.example/g00017/impl"
)

// An interfaceCall has the arguments of Interface.
type interfaceCall struct {
	module impl.Node
	types  []impl.Typed
}

func (c interfaceCall) answer() string { return impl.Interface(c.module, c.types) }

// interfaceCalls has calls with lines of all sorts, and with none.
func interfaceCalls(t *testing.T) []interfaceCall {
	t.Helper()
	m := treeMaker{rand.New(rand.NewPCG(20, 5))}
	calls := []interfaceCall{{}, {types: someTyped()}, {module: importing("M", "N")}, {module: parsed(t, "module M where { "+sortsOfDecls+" }")}}
	for _, items := range []string{"", "f , T , K , (+)", "none , T , f , f , U , u , bad"} {
		calls = append(calls, interfaceCall{parsed(t, exportingSorts(items)), someTyped()}, interfaceCall{parsed(t, exportingSorts(items)), nil})
	}
	for range 60 {
		list := m.program()
		types := m.typedThings(list)
		for _, n := range list {
			calls = append(calls, interfaceCall{n, types}, interfaceCall{m.exportingMore(n), types})
		}
	}
	for _, list := range inferLists(t) {
		for _, n := range list {
			calls = append(calls, interfaceCall{n, impl.InferProgram(list).Types})
		}
	}
	return calls
}

// roomyTyped copies types, with something in the room behind each list.
func roomyTyped(types []impl.Typed) []impl.Typed {
	return roomy(types, impl.Typed{Name: "M.behind"}, func(x impl.Typed) impl.Typed {
		preds := roomy(x.Scheme.Preds, impl.Pred{Class: "behind", Id: -7}, func(p impl.Pred) impl.Pred {
			return impl.Pred{Class: strings.Clone(p.Class), Id: p.Id}
		})
		return impl.Typed{Name: strings.Clone(x.Name), Scheme: impl.Scheme{Count: x.Scheme.Count, Preds: preds, Type: roomyType(x.Scheme.Type)}}
	})
}

func sameTyped(a, b impl.Typed) bool {
	return a.Name == b.Name && a.Scheme.Count == b.Scheme.Count && slices.Equal(a.Scheme.Preds, b.Scheme.Preds) && sameTypeSlowly(a.Scheme.Type, b.Scheme.Type)
}

// typedRoomKept says whether what stands behind the lists is as it was.
func typedRoomKept(types []impl.Typed) bool {
	behind := types[:len(types)+1][len(types)]
	return sameTyped(behind, impl.Typed{Name: "M.behind"}) && !slices.ContainsFunc(types, func(x impl.Typed) bool {
		last := x.Scheme.Preds[:len(x.Scheme.Preds)+1][len(x.Scheme.Preds)]
		return last != impl.Pred{Class: "behind", Id: -7} || !typeRoomKept(x.Scheme.Type)
	})
}

func TestInterfaceChangesNothing(t *testing.T) {
	lines := 0
	for _, c := range interfaceCalls(t) {
		want := c.answer()
		own := interfaceCall{roomyTree(c.module), roomyTyped(c.types)}
		if got := own.answer(); got != want || own.answer() != want {
			t.Errorf("%s\nhangs on what stands behind a list", kinded(c.module))
		}
		if !sameSlowly(own.module, c.module) || !slices.EqualFunc(own.types, c.types, sameTyped) || !roomKept(own.module) || !typedRoomKept(own.types) {
			t.Errorf("%s\nor its types are changed", kinded(c.module))
		}
		lines += strings.Count(want, "\n")
	}
	if lines < 300 {
		t.Errorf("there are but %d lines", lines)
	}
}

// The text lies in no argument, nor in that of another call.
func TestInterfacesAreNewMemory(t *testing.T) {
	for _, c := range interfaceCalls(t) {
		own := interfaceCall{cloneTree(c.module), roomyTyped(c.types)}
		first, second := own.answer(), own.answer()
		if touches(textMemory(first), textMemory(second)) {
			t.Errorf("two texts of %s share memory", kinded(c.module))
		}
		var given []memory
		for _, text := range textsIn(own.module, nil) {
			given = append(given, textMemory(text)...)
		}
		for _, x := range own.types {
			_, texts := typesMemory([]impl.Type{x.Scheme.Type}, nil, x.Scheme.Preds)
			given = slices.Concat(given, texts, textMemory(x.Name))
		}
		if touches(textMemory(first), given) {
			t.Errorf("the text of %s lies in an argument", kinded(c.module))
		}
	}
}

// Names, lists and types may lie in one memory, in many places of both arguments.
func TestInterfaceOfSharedMemory(t *testing.T) {
	for _, c := range interfaceCalls(t) {
		known := map[string]string{}
		shared := func(text string) string {
			if _, again := known[text]; !again {
				known[text] = text
			}
			return known[text]
		}
		own := interfaceCall{module: sharing(mapTree(c.module, func(n impl.Node) impl.Node {
			n.Name = shared(n.Name)
			return n
		}), map[string][]impl.Node{})}
		for _, x := range c.types {
			x.Name = shared(x.Name)
			own.types = append(own.types, x)
		}
		if got, want := own.answer(), c.answer(); got != want {
			t.Errorf("%s\nis told as\n%s\nnot\n%s", kinded(c.module), got, want)
		}
	}
	large := typeCon("(,)", wideType(300, typeVar(1)), wideType(300, typePlace(1)))
	var types []impl.Typed
	var items []string
	for i := range 50 {
		items = append(items, numbered("v", i))
		types = append(types, impl.Typed{Name: "M." + items[i], Scheme: impl.Scheme{Count: 2, Preds: predsOf("K@1"), Type: large}})
	}
	checkInterface(t, exporting("M", items), types)
}

// Calls at the same time and in any order answer alike, however many may run at once.
func TestInterfacesHangOnArgumentsAlone(t *testing.T) {
	calls := interfaceCalls(t)
	var want []string
	for _, c := range calls {
		want = append(want, interfaceSlowly(c.module, c.types))
	}
	defer runtime.GOMAXPROCS(runtime.GOMAXPROCS(0))
	for _, count := range []int{1, 2, 3, 16} {
		runtime.GOMAXPROCS(count)
		var all sync.WaitGroup
		for worker := range 6 {
			all.Go(func() {
				for i := range calls {
					at := (i*7 + worker) % len(calls)
					if got := calls[at].answer(); got != want[at] {
						t.Errorf("%s answers another way", kinded(calls[at].module))
					}
				}
			})
		}
		all.Wait()
	}
}

// One great module again and again: lines come in one order, whoever has written them.
func TestInterfaceAnswersAlikeAgain(t *testing.T) {
	var items []string
	var types []impl.Typed
	for i := range 3000 {
		items = append(items, numbered("v", i*7919%3001), numbered("T", i))
		types = append(types, typedAs(numbered("M.v", i), "W{"+strings.Repeat("@1 ", i%40)+"Int}", "K@1"))
	}
	module := exporting("M", items, dataNamed("T7", "A"), dataNamed("T2999", "A"))
	want := checkInterface(t, module, types)
	for range 100 {
		if impl.Interface(module, types) != want {
			t.Fatal("it is told another way")
		}
	}
	if strings.Count(want, "\n") < 2990 {
		t.Errorf("%d lines", strings.Count(want, "\n"))
	}
}

// goroutinesInside says how many goroutines run something of the program.
func goroutinesInside() int {
	room := make([]byte, 1<<22)
	return strings.Count(string(room[:runtime.Stack(room, true)]), "created by loop.example/g00017/impl.")
}

// When a call answers all that it has begun is at its end; one that has said so may take a moment to be gone.
func TestInterfaceLeavesNoGoroutines(t *testing.T) {
	calls, before := interfaceCalls(t), runtime.NumGoroutine()
	for round := range 3 {
		for _, c := range calls {
			c.answer()
		}
		tries := 0
		for goroutinesInside() > 0 || runtime.NumGoroutine() > before {
			if tries++; tries > 500 {
				t.Fatalf("round %d: %d goroutines, not %d", round, runtime.NumGoroutine(), before)
			}
			time.Sleep(time.Millisecond)
		}
	}
}
