package tests

import (
	"fmt"
	"math/rand/v2"
	"slices"
	"testing"

	"loop.example/g00017/impl"
)

// edgesByBits has so many things, of which each two are joined if a bit says so.
func edgesByBits(count int, bits int) [][]int64 {
	edges := make([][]int64, count)
	for i := range count {
		for j := range count {
			if bits>>(i*count+j)&1 == 1 {
				edges[i] = append(edges[i], int64(j))
			}
		}
	}
	return edges
}

// All ways in which up to three things name one another, and four that do not name themselves.
func TestAllSmallGroups(t *testing.T) {
	for count := range 4 {
		for bits := range 1 << (count * count) {
			checkGroups(t, edgesByBits(count, bits))
		}
	}
	for bits := range 1 << 12 {
		whole := 0
		for from := range 4 {
			row := bits >> (3 * from) & 7
			whole |= (row&(1<<from-1) | row>>from<<(from+1)) << (4 * from)
		}
		checkGroups(t, edgesByBits(4, whole))
	}
}

// An edgeMaker draws what things name.
type edgeMaker struct {
	*rand.Rand
}

// names draws some of so many things; now and then a name that stands again, or none of them.
func (m edgeMaker) names(count, most int) []int64 {
	var names []int64
	for range m.IntN(most + 1) {
		switch m.IntN(12) {
		case 0:
			names = append(names, outOfBounds(count)[m.IntN(len(outOfBounds(count)))])
		case 1:
			if len(names) > 0 {
				names = append(names, names[m.IntN(len(names))])
			}
		default:
			names = append(names, m.Int64N(int64(count)))
		}
	}
	return names
}

func (m edgeMaker) sparse(count, most int) [][]int64 {
	edges := make([][]int64, count)
	for i := range edges {
		edges[i] = m.names(count, most)
	}
	return edges
}

// rounds draws rounds, joined so that none of them grow together, and numbers all things anew.
func (m edgeMaker) rounds(count int) [][]int64 {
	edges := make([][]int64, count)
	ends := []int{0}
	for ends[len(ends)-1] < count {
		last := ends[len(ends)-1]
		ends = append(ends, min(count, last+1+m.IntN(4)))
	}
	order := m.Perm(count)
	for i, from := range ends[:len(ends)-1] {
		to := ends[i+1]
		for at := from; at < to; at++ {
			next := at + 1
			if next == to {
				next = from
			}
			if next != at || m.IntN(2) == 0 {
				edges[order[at]] = append(edges[order[at]], int64(order[next]))
			}
			for range m.IntN(3) {
				if from > 0 {
					edges[order[at]] = append(edges[order[at]], int64(order[m.IntN(from)]))
				}
			}
			m.Shuffle(len(edges[order[at]]), func(i, j int) {
				names := edges[order[at]]
				names[i], names[j] = names[j], names[i]
			})
		}
	}
	return edges
}

// drawn draws one of all kinds.
func (m edgeMaker) drawn() [][]int64 {
	count := 1 + m.IntN(14)
	switch m.IntN(5) {
	case 0:
		return m.rounds(count)
	case 1:
		return m.sparse(count, 1)
	case 2:
		return m.sparse(count, 2)
	case 3:
		return m.sparse(count, count)
	}
	return m.sparse(count, 3)
}

func TestDrawnGroups(t *testing.T) {
	m := edgeMaker{rand.New(rand.NewPCG(10, 1))}
	sizes := map[int]int{}
	for range 40000 {
		edges := m.drawn()
		checkGroups(t, edges)
		sizes[len(impl.Groups(edges))]++
	}
	for size := 1; size <= 14; size++ {
		if sizes[size] < 100 {
			t.Errorf("%d times %d groups", sizes[size], size)
		}
	}
}

// Those of hundreds, too, held against the second reading and against what the document says of groups.
func TestDrawnGroupsOfMany(t *testing.T) {
	m := edgeMaker{rand.New(rand.NewPCG(10, 2))}
	for round := range 60 {
		count := 40 + m.IntN(120)
		edges := m.sparse(count, 1+round%3)
		if round%2 == 0 {
			edges = m.rounds(count)
		}
		checkGroups(t, edges)
		checkGroupLaws(t, fmt.Sprint(edges), edges)
	}
}

// What is told is told again of things that name but those of other groups that stand ahead, and of their own.
func TestGroupsOfGroups(t *testing.T) {
	m := edgeMaker{rand.New(rand.NewPCG(10, 3))}
	for range 2000 {
		edges := m.drawn()
		groups := impl.Groups(edges)
		leads := leadsSlowly(edges)
		whole := make([][]int64, len(edges))
		for i := range edges {
			for j := range edges {
				if leads[i][j] {
					whole[i] = append(whole[i], int64(j))
				}
			}
		}
		if got := fmt.Sprint(impl.Groups(whole)); got != fmt.Sprint(groups) {
			t.Fatalf("%v: %s, not %v", edges, got, groups)
		}
		// numbered in the order in which they are told, they are told in the order of their numbers, if each is alone
		if len(groups) < len(edges) {
			continue
		}
		again := make([][]int64, len(edges))
		for at, group := range groups {
			for _, name := range whole[group[0]] {
				if name != group[0] {
					again[at] = append(again[at], int64(slices.IndexFunc(groups, func(g []int64) bool { return g[0] == name })))
				}
			}
		}
		for at, group := range impl.Groups(again) {
			if len(group) != 1 || group[0] != int64(at) {
				t.Fatalf("%v: %v stands at %d", again, group, at)
			}
		}
	}
}
