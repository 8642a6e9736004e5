package tests

import (
	"fmt"
	"math"
	"slices"
	"testing"

	"loop.example/g00017/impl"
)

// A coreGraph has terms and alternatives in two lists, parts of which are the lists of all of them.
type coreGraph struct {
	terms []impl.Core
	alts  []impl.CoreAlt
}

// stretch draws a part of a list from some place on.
func stretch[T any](m coreMaker, list []T, least int) []T {
	from := least + m.IntN(len(list)-least+1)
	return list[from : from+m.IntN(len(list)-from+1)]
}

// graph draws lists that overlap; with rounds they may lead anywhere, else only further on.
func (m coreMaker) graph(terms, alts int, rounds bool) coreGraph {
	g := coreGraph{make([]impl.Core, terms), make([]impl.CoreAlt, alts)}
	names, limbs := []string{"a", "b", "c"}, []uint32{1, 2, 3}
	fill := func(c *impl.Core, least, leastAlt int) {
		if rounds {
			least, leastAlt = 0, 0
		}
		*c = impl.Core{Kind: 4 + m.Int64N(2), Name: m.one("x y"), Kids: stretch(m, g.terms, least)}
		if m.IntN(3) == 0 {
			c.Alts = stretch(m, g.alts, leastAlt)
		}
		if m.IntN(4) == 0 {
			c.Names, c.Big.Limbs = stretch(m, names, 0), stretch(m, limbs, 0)
		}
	}
	for i := range g.terms {
		fill(&g.terms[i], i+1, i*alts/terms)
	}
	for i := range g.alts {
		g.alts[i] = impl.CoreAlt{Con: m.one("A B"), Names: stretch(m, names, 0)}
		fill(&g.alts[i].Body, min((i+1)*terms/max(alts, 1)+1, terms), i+1)
	}
	return g
}

// all has the terms and bodies.
func (g coreGraph) all() []*impl.Core {
	var list []*impl.Core
	for i := range g.terms {
		list = append(list, &g.terms[i])
	}
	for i := range g.alts {
		list = append(list, &g.alts[i].Body)
	}
	return list
}

// clone copies a graph; what is one list in it is one in the copy.
func (g coreGraph) clone() coreGraph {
	own := coreGraph{slices.Clone(g.terms), slices.Clone(g.alts)}
	for _, c := range own.all() {
		if len(c.Kids) > 0 {
			from := slices.IndexFunc(g.all(), func(one *impl.Core) bool { return one == &c.Kids[0] })
			c.Kids = own.terms[from : from+len(c.Kids)]
		}
		if len(c.Alts) > 0 {
			for i := range g.alts {
				if &g.alts[i] == &c.Alts[0] {
					c.Alts = own.alts[i : i+len(c.Alts)]
					break
				}
			}
		}
	}
	return own
}

// coreColors has a number for each of some terms, the same for two exactly if nothing tells them apart however far one goes.
func coreColors(list []*impl.Core) map[*impl.Core]int {
	nodes := slices.Clone(list)
	seen := map[*impl.Core]int{}
	for i := 0; i < len(nodes); i++ {
		c := nodes[i]
		if _, again := seen[c]; again {
			continue
		}
		seen[c] = 0
		for k := range c.Kids {
			nodes = append(nodes, &c.Kids[k])
		}
		for k := range c.Alts {
			nodes = append(nodes, &c.Alts[k].Body)
		}
	}
	for count := 0; ; {
		numbers, next := map[string]int{}, map[*impl.Core]int{}
		for c := range seen {
			text := fmt.Sprintf("%d %q %v %v %q", c.Kind, c.Name, c.Big.Minus, c.Big.Limbs, c.Names)
			for k := range c.Kids {
				text += fmt.Sprint(" ", seen[&c.Kids[k]])
			}
			for k := range c.Alts {
				text += fmt.Sprintf("|%q %q %d", c.Alts[k].Con, c.Alts[k].Names, seen[&c.Alts[k].Body])
			}
			if _, known := numbers[text]; !known {
				numbers[text] = len(numbers)
			}
			next[c] = numbers[text]
		}
		seen = next
		if len(numbers) == count {
			return seen
		}
		count = len(numbers)
	}
}

// Terms of drawn graphs are the same exactly if nothing tells them apart.
func TestSameCoreOfGraphs(t *testing.T) {
	m := newCoreMaker(9)
	counts := map[bool]int{}
	for round := range 300 {
		g := m.graph(1+round%6, round%4, round%3 > 0)
		other := g.clone()
		list := append(g.all(), other.all()...)
		colors := coreColors(list)
		for i, a := range g.all() {
			if b := other.all()[i]; colors[a] != colors[b] {
				t.Fatal("a clone is another one")
			}
		}
		for _, a := range list {
			for _, b := range list {
				want := colors[a] == colors[b]
				counts[want]++
				if got := impl.SameCore(*a, *b); got != want {
					t.Errorf("round %d: %v", round, got)
				}
			}
		}
	}
	if counts[true] < 2000 || counts[false] < 2000 {
		t.Errorf("there are %v", counts)
	}
}

// graphSize has the size of a term; those that come back to themselves have no end.
func graphSize(c *impl.Core, open map[*impl.Core]bool) int64 {
	if open[c] {
		return math.MaxInt64
	}
	open[c] = true
	defer delete(open, c)
	size := int64(1)
	add := func(part *impl.Core) {
		if more := graphSize(part, open); more > math.MaxInt64-size {
			size = math.MaxInt64
		} else {
			size += more
		}
	}
	for i := range c.Kids {
		if size < math.MaxInt64 {
			add(&c.Kids[i])
		}
	}
	for i := range c.Alts {
		if size < math.MaxInt64 {
			add(&c.Alts[i].Body)
		}
	}
	return size
}

// Drawn graphs are copied as they are, and have the sizes that they have.
func TestDrawnCoreGraphs(t *testing.T) {
	m := newCoreMaker(10)
	ends := map[bool]int{}
	for round := range 600 {
		g := m.graph(1+round%7, round%5, round%3 > 0)
		kept := g.clone()
		for i, c := range g.all() {
			size := graphSize(c, map[*impl.Core]bool{})
			ends[size < math.MaxInt64]++
			if got := impl.CoreSize(*c); got != size {
				t.Errorf("round %d: size %d, not %d", round, got, size)
			}
			if fault := impl.CoreFault(*c); (fault == 1) != (size > impl.MaxCore) {
				t.Errorf("round %d: fault %d", round, fault)
			}
			made := impl.Rename(*c, "z", "y")
			if !sameGraphs(*kept.all()[i], made, &g) {
				t.Errorf("round %d: another one is answered, or one in the argument's memory", round)
			}
			if size < 10000 {
				if lists, _ := coreMemory(made); !apart(lists) {
					t.Errorf("round %d: lists share memory", round)
				}
			}
			spoilFirst(made, 2)
			if colors := coreColors(append(g.all(), kept.all()...)); colors[c] != colors[kept.all()[i]] {
				t.Fatalf("round %d: the argument is changed", round)
			}
		}
	}
	if ends[true] < 500 || ends[false] < 500 {
		t.Errorf("with an end, or not: %v", ends)
	}
}

// sameGraphs says whether two terms are the same by their colors, and the second one has no list of a graph.
func sameGraphs(a, b impl.Core, g *coreGraph) bool {
	colors := coreColors([]*impl.Core{&a, &b})
	for _, c := range g.all() {
		if _, again := colors[c]; again {
			return false
		}
	}
	return colors[&a] == colors[&b]
}

// Lists that are parts of one memory, each a little longer or shorter than the one ahead, or a little further on.
func overlapping(count int, part func(list []impl.Core, i int) []impl.Core) impl.Core {
	list := make([]impl.Core, count)
	for i := range list {
		list[i] = impl.Core{Kind: impl.CCon, Name: "C", Kids: part(list, i)}
	}
	return impl.Core{Kind: impl.CCon, Name: "C", Kids: list}
}

func overlappings() map[string]func(list []impl.Core, i int) []impl.Core {
	return map[string]func([]impl.Core, int) []impl.Core{
		"behind":        func(list []impl.Core, i int) []impl.Core { return list[i+1:] },
		"ahead":         func(list []impl.Core, i int) []impl.Core { return list[:i] },
		"clipped ahead": func(list []impl.Core, i int) []impl.Core { return list[:i:i] },
		"window":        func(list []impl.Core, i int) []impl.Core { return list[i+1 : min(i+1+len(list)/3, len(list))] },
		"window back":   func(list []impl.Core, i int) []impl.Core { return list[max(i-len(list)/3, 0):i] },
		"step":          func(list []impl.Core, i int) []impl.Core { return list[i+1 : min(i+3, len(list))] },
		"all":           func(list []impl.Core, i int) []impl.Core { return list },
		"half":          func(list []impl.Core, i int) []impl.Core { return list[i/2 : i/2+len(list)/2] },
	}
}

// Very many lists in one memory are gone through soon, and take no more memory than they have.
func TestManyOverlappingCoreLists(t *testing.T) {
	for name, part := range overlappings() {
		for _, count := range []int{2, 12, 300} {
			a, b := overlapping(count, part), overlapping(count, part)
			got := impl.Rename(a, "x", "y")
			if !impl.SameCore(a, b) || !impl.SameCore(got, b) || &got.Kids[0] == &a.Kids[0] {
				t.Errorf("%s: %d become something else", name, count)
			}
			spoilFirst(got, 2)
			b.Kids[count/2].Name = "other"
			if !impl.SameCore(a, overlapping(count, part)) || impl.SameCore(a, b) {
				t.Errorf("%s: %d share memory with their answer", name, count)
			}
		}
	}
	for _, name := range []string{"clipped ahead", "half"} {
		c := overlapping(impl.MaxCore+1, overlappings()[name])
		if !impl.SameCore(impl.Rename(c, "x", "y"), c) {
			t.Errorf("%s: very many become something else", name)
		}
	}
	for count := 1; count < 70; count++ {
		want := int64(math.MaxInt64)
		if count < 63 {
			want = 1 << count
		}
		for _, name := range []string{"behind", "ahead", "clipped ahead"} {
			if got := impl.CoreSize(overlapping(count, overlappings()[name])); got != want {
				t.Errorf("%s: %d have the size %d", name, count, got)
			}
		}
		if got := impl.CoreSize(overlapping(count, overlappings()["all"])); got != math.MaxInt64 {
			t.Errorf("all: %d have the size %d", count, got)
		}
	}
}
