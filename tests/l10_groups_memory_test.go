package tests

import (
	"fmt"
	"math/rand/v2"
	"slices"
	"sync"
	"testing"

	"loop.example/g00017/impl"
)

// groupCalls draws arguments, some of whose lists are one memory.
func groupCalls() [][][]int64 {
	m := edgeMaker{rand.New(rand.NewPCG(10, 6))}
	calls := [][][]int64{nil, {}, {nil}, {{}}, {{0}}, {{1}, {0}}, {outOfBounds(1)}}
	for range 400 {
		edges := m.drawn()
		calls = append(calls, edges)
		shared := slices.Clone(edges)
		for range 3 {
			shared[m.IntN(len(shared))] = shared[m.IntN(len(shared))]
		}
		whole := m.names(len(edges), 9)
		for range 3 {
			from := m.IntN(len(whole) + 1)
			shared[m.IntN(len(shared))] = whole[from : from+m.IntN(len(whole)-from+1)]
		}
		calls = append(calls, shared)
	}
	return calls
}

func TestGroupsChangeNothing(t *testing.T) {
	for _, edges := range groupCalls() {
		want := fmt.Sprint(impl.Groups(edges))
		given := roomy(edges, []int64{0, 1}, func(names []int64) []int64 {
			return roomy(names, -7, func(name int64) int64 { return name })
		})
		if got := fmt.Sprint(impl.Groups(given)); got != want {
			t.Errorf("%v: %s hangs on what stands behind a list", edges, got)
		}
		if fmt.Sprint(given) != fmt.Sprint(edges) || !slices.Equal(given[:len(edges)+1][len(edges)], []int64{0, 1}) {
			t.Errorf("%v is changed", edges)
		}
		for _, names := range given {
			if names[:len(names)+1][len(names)] != -7 {
				t.Errorf("%v is changed behind a list", edges)
			}
		}
	}
}

func TestGroupsAreNewMemory(t *testing.T) {
	for _, edges := range groupCalls() {
		text := fmt.Sprint(edges)
		got := impl.Groups(edges)
		want := fmt.Sprint(got)
		lists, given := memoryOf(got), memoryOf(edges)
		for _, members := range got {
			lists = append(lists, memoryOf(members)...)
		}
		for _, names := range edges {
			given = append(given, memoryOf(names)...)
		}
		if !apart(slices.Clone(lists)) || touches(lists, given) {
			t.Errorf("%s: lists share memory", want)
		}
		for _, members := range got {
			clear(members[:cap(members)])
		}
		clear(got[:cap(got)])
		if fmt.Sprint(edges) != text || fmt.Sprint(impl.Groups(edges)) != want {
			t.Errorf("%s is told another way behind a change of it", want)
		}
	}
}

// What is written into the argument behind the call is not seen in the answer.
func TestGroupsKeepNothing(t *testing.T) {
	for _, edges := range groupCalls() {
		own := slices.Clone(edges)
		for i, names := range edges {
			own[i] = slices.Clone(names)
		}
		got := impl.Groups(own)
		want := fmt.Sprint(got)
		for _, names := range own {
			clear(names)
		}
		clear(own)
		impl.Groups(own)
		if fmt.Sprint(got) != want || fmt.Sprint(impl.Groups(edges)) != want {
			t.Errorf("%s is another one behind a change of the argument", want)
		}
	}
}

// Calls at the same time and in any order answer alike.
func TestGroupsHangOnArgumentsAlone(t *testing.T) {
	calls := groupCalls()
	var told []string
	for _, edges := range calls {
		told = append(told, fmt.Sprint(impl.Groups(edges)))
	}
	var all sync.WaitGroup
	for worker := range 8 {
		all.Go(func() {
			for i := range calls {
				at := (i*7 + worker) % len(calls)
				if got := fmt.Sprint(impl.Groups(calls[at])); got != told[at] {
					t.Errorf("%v: %s, not %s", calls[at], got, told[at])
				}
			}
		})
	}
	all.Wait()
}

// Many lists of a large answer are apart, too.
func TestManyGroupsAreApart(t *testing.T) {
	const count = 30000
	edges := upTo(count)
	for i := 2; i < count; i += 3 {
		edges[i] = []int64{int64(i - 2)}
	}
	groups := impl.Groups(edges)
	lists := memoryOf(groups)
	for _, members := range groups {
		lists = append(lists, memoryOf(members)...)
	}
	if len(groups) != count/3 || len(lists) != count/3+1 || !apart(lists) {
		t.Errorf("%d groups, %d lists", len(groups), len(lists))
	}
}
