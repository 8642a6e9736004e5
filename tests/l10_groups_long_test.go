package tests

import (
	"fmt"
	"math/rand/v2"
	"slices"
	"testing"

	"loop.example/g00017/impl"
)

// upTo has so many things, of which each names the next one.
func upTo(count int) [][]int64 {
	edges := make([][]int64, count)
	for i := range count - 1 {
		edges[i] = []int64{int64(i + 1)}
	}
	return edges
}

// downFrom has so many things, of which each names the one ahead of it.
func downFrom(count int) [][]int64 {
	edges := make([][]int64, count)
	for i := 1; i < count; i++ {
		edges[i] = []int64{int64(i - 1)}
	}
	return edges
}

var longCounts = []int{1000, 5000, 16383, 16384, 16385, 16386, 16387, 32768, 32769, 32770, 65535, 65536, 65537, 65538, 100000}

func TestLongChains(t *testing.T) {
	for _, count := range longCounts {
		up, down := impl.Groups(upTo(count)), impl.Groups(downFrom(count))
		if len(up) != count || len(down) != count {
			t.Fatalf("%d: %d and %d groups", count, len(up), len(down))
		}
		for i := range count {
			if !slices.Equal(up[i], []int64{int64(count - 1 - i)}) || !slices.Equal(down[i], []int64{int64(i)}) {
				t.Fatalf("%d: %v and %v at %d", count, up[i], down[i], i)
			}
		}
	}
}

func TestLongRounds(t *testing.T) {
	for _, count := range longCounts {
		up, down := upTo(count), downFrom(count)
		up[count-1] = []int64{0}
		down[0] = []int64{int64(count - 1)}
		for name, edges := range map[string][][]int64{"up": up, "down": down} {
			groups := impl.Groups(edges)
			if len(groups) != 1 || len(groups[0]) != count || groups[0][0] != 0 || groups[0][count-1] != int64(count-1) || !slices.IsSorted(groups[0]) {
				t.Fatalf("%s %d: %d groups", name, count, len(groups))
			}
		}
		// a line to a round, and one from it
		for _, part := range []int{1, 7, count / 2, count - 2} {
			to, from := upTo(count), upTo(count)
			to[count-1] = []int64{int64(part)}
			from[part] = append(from[part], 0)
			first, second := impl.Groups(to), impl.Groups(from)
			if len(first) != part+1 || len(first[0]) != count-part || first[0][0] != int64(part) || first[part][0] != 0 {
				t.Fatalf("%d: %d groups to a round", count, len(first))
			}
			last := second[len(second)-1]
			if len(second) != count-part || len(last) != part+1 || last[part] != int64(part) || second[0][0] != int64(count-1) {
				t.Fatalf("%d: %d groups from a round", count, len(second))
			}
		}
	}
}

// A way of a million things is longer than one that calls may go.
func TestGroupsOfAMillion(t *testing.T) {
	const count = 1000000
	line := upTo(count)
	groups := impl.Groups(line)
	if len(groups) != count || groups[0][0] != count-1 || groups[count-1][0] != 0 {
		t.Fatalf("%d groups", len(groups))
	}
	line[count-1] = []int64{0, count / 2, count}
	if groups = impl.Groups(line); len(groups) != 1 || len(groups[0]) != count {
		t.Fatalf("%d groups in a round", len(groups))
	}
	line[count-1] = []int64{count / 2, -1}
	if groups = impl.Groups(line); len(groups) != count/2+1 || len(groups[0]) != count/2 || groups[1][0] != count/2-1 {
		t.Fatalf("%d groups behind a round", len(groups))
	}
}

// Things that each name all, all ahead of them, or all behind them.
func TestGroupsOfThingsThatNameAll(t *testing.T) {
	const count = 4000
	all := make([]int64, count)
	for i := range all {
		all[i] = int64(i)
	}
	whole, ahead, behind := make([][]int64, count), make([][]int64, count), make([][]int64, count)
	for i := range count {
		whole[i], ahead[i], behind[i] = all, all[:i], all[i+1:]
	}
	if got := impl.Groups(whole); len(got) != 1 || !slices.Equal(got[0], all) {
		t.Errorf("%d groups", len(got))
	}
	first, second := impl.Groups(ahead), impl.Groups(behind)
	if len(first) != count || len(second) != count {
		t.Fatalf("%d and %d groups", len(first), len(second))
	}
	for i := range count {
		if !slices.Equal(first[i], all[i:i+1]) || !slices.Equal(second[i], all[count-1-i:count-i]) {
			t.Fatalf("%v and %v at %d", first[i], second[i], i)
		}
	}
	// but for one, which names nothing, and one that is named by none
	whole[count/2] = nil
	if got := impl.Groups(whole); len(got) != 2 || !slices.Equal(got[0], all[count/2:count/2+1]) || len(got[1]) != count-1 {
		t.Errorf("%d groups", len(got))
	}
	if got := impl.Groups(append(slices.Repeat([][]int64{all[:count-1]}, count-1), all)); len(got) != 2 || len(got[0]) != count-1 || !slices.Equal(got[1], all[count-1:]) {
		t.Errorf("%d groups", len(got))
	}
}

// Many that wait for one, one that waits for many, and many in pairs.
func TestWideGroups(t *testing.T) {
	const count = 20000
	star, from, pairs := make([][]int64, count), make([][]int64, count), make([][]int64, count)
	for i := range count {
		star[i] = []int64{count - 1}
		from[0] = append(from[0], int64(count-1-i))
		pairs[i] = []int64{int64(count - 1 - i)}
	}
	for name, edges := range map[string][][]int64{"star": star, "from": from, "pairs": pairs} {
		checkGroupLaws(t, name, edges)
	}
	if got := impl.Groups(star); got[0][0] != count-1 || got[1][0] != 0 || got[count-1][0] != count-2 {
		t.Error("many that wait for one")
	}
	if got := impl.Groups(from); got[0][0] != 1 || got[count-1][0] != 0 {
		t.Error("one that waits for many")
	}
	if got := impl.Groups(pairs); len(got) != count/2 || fmt.Sprint(got[7]) != fmt.Sprint([]int64{7, count - 8}) {
		t.Error("many in pairs")
	}
}

// Chains that lie among each other take turns by their numbers.
func TestChainsAmongEachOther(t *testing.T) {
	const count, chains = 3000, 7
	rising, falling := make([][]int64, count), make([][]int64, count)
	for i := range count {
		if i >= chains {
			rising[i] = []int64{int64(i - chains)}
		}
		falling[i] = []int64{int64(i + chains)}
	}
	for i, group := range checkGroupLaws(t, "rising", rising) {
		if group[0] != int64(i) {
			t.Fatalf("%v at %d", group, i)
		}
	}
	got := checkGroupLaws(t, "falling", falling)
	if got[0][0] != count-chains || got[1][0] != count-2*chains {
		t.Errorf("%v", got[:10])
	}
}

// Long ways with steps back, ahead and across: far deeper than calls go, so that the walk has to be taken up again.
func TestDrawnLongWays(t *testing.T) {
	m := edgeMaker{rand.New(rand.NewPCG(10, 4))}
	for round := range 24 {
		const count = 60000
		edges := upTo(count)
		order := m.Perm(count)
		if round%2 == 0 {
			slices.Sort(order)
		}
		for range []int{3, 50, 3000, 40000}[round%4] {
			at := m.IntN(count)
			reach := []int{2, 40, 20000, count}[m.IntN(4)]
			name := int64(at - m.IntN(reach))
			if m.IntN(3) == 0 {
				name = int64(at + m.IntN(reach))
			}
			edges[at] = slices.Insert(edges[at], m.IntN(len(edges[at])+1), name)
		}
		checkGroupLaws(t, fmt.Sprint("round ", round), renumbered(edges, order))
	}
}

// renumbered gives things other numbers; those that are none stay as they are.
func renumbered(edges [][]int64, order []int) [][]int64 {
	other := make([][]int64, len(edges))
	for i, names := range edges {
		for _, name := range names {
			if name >= 0 && name < int64(len(edges)) {
				name = int64(order[name])
			}
			other[order[i]] = append(other[order[i]], name)
		}
	}
	return other
}

func TestDrawnGroupsOfThousands(t *testing.T) {
	m := edgeMaker{rand.New(rand.NewPCG(10, 5))}
	for round := range 30 {
		count := 1000 + m.IntN(4000)
		edges := m.sparse(count, 1+round%4)
		if round%3 == 0 {
			edges = m.rounds(count)
		}
		checkGroupLaws(t, fmt.Sprint("round ", round), edges)
	}
}
