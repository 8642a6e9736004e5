package tests

import (
	"fmt"
	"math"
	"slices"
	"testing"

	"loop.example/g00017/impl"
)

func TestGroupsOfNoThings(t *testing.T) {
	for _, edges := range [][][]int64{nil, {}, make([][]int64, 0, 5)} {
		if got := impl.Groups(edges); len(got) != 0 {
			t.Error(got)
		}
	}
}

// outOfBounds has what is no thing among so many.
func outOfBounds(count int) []int64 {
	n := int64(count)
	return []int64{-1, -2, -n, -n - 1, n, n + 1, 2*n + 7, 1 << 31, 1 << 32, 1<<32 + n - 1, -1 << 31, -1 << 32, 1<<32 - 1, 1 << 62, 1 << 40, math.MinInt64, math.MinInt64 + 1, math.MinInt64 + n, math.MaxInt64, math.MaxInt64 - 1}
}

func TestGroupsOfOneThing(t *testing.T) {
	lists := [][]int64{nil, {}, {0}, {0, 0}, {0, 0, 0, 0}, {-1, 0, 1}, {0, math.MinInt64, 0, math.MaxInt64}, outOfBounds(1)}
	for _, name := range outOfBounds(1) {
		lists = append(lists, []int64{name}, []int64{name, name}, []int64{name, 0}, []int64{0, name})
	}
	for _, names := range lists {
		if got := checkGroups(t, [][]int64{names}); got != "[[0]]" {
			t.Errorf("%v: %s", names, got)
		}
	}
}

// What is out of bounds is not looked at, wherever it stands.
func TestGroupsPassByWhatIsOutOfBounds(t *testing.T) {
	for _, text := range []string{"|", "|||", "1|2|0", "1|0|3|2", "1|2||0 2", "2||1|0 0|2 3", "1 2|0 2|0 1"} {
		edges := edgesOf(t, text)
		want := checkGroups(t, edges)
		odd := outOfBounds(len(edges))
		for _, name := range odd {
			for thing := range edges {
				spoilt := slices.Clone(edges)
				for at := range len(edges[thing]) + 1 {
					spoilt[thing] = slices.Insert(slices.Clone(edges[thing]), at, name)
					if got := checkGroups(t, spoilt); got != want {
						t.Errorf("%v: %s, not %s", spoilt, got, want)
					}
				}
			}
		}
		spoilt := slices.Clone(edges)
		for thing, names := range edges {
			spoilt[thing] = slices.Concat(odd, names, odd)
		}
		if got := checkGroups(t, spoilt); got != want {
			t.Errorf("%v: %s, not %s", spoilt, got, want)
		}
	}
}

func TestGroups(t *testing.T) {
	for _, row := range []struct{ edges, want string }{
		// nothing is named
		{"|", "[[0] [1]]"}, {"||||", "[[0] [1] [2] [3] [4]]"},
		// themselves
		{"0|1|2", "[[0] [1] [2]]"}, {"0 1|1|2 0", "[[1] [0] [2]]"},
		// one step there and back
		{"1|0", "[[0 1]]"}, {"1|0|", "[[0 1] [2]]"}, {"|2|1", "[[0] [1 2]]"}, {"2||0", "[[0 2] [1]]"}, {"3|2|1|0", "[[0 3] [1 2]]"}, {"2|3|0|1", "[[0 2] [1 3]]"}, {"1 0|1 0", "[[0 1]]"},
		// several steps, and round through all
		{"1|2|0", "[[0 1 2]]"}, {"2|0|1", "[[0 1 2]]"}, {"1|2|3|0", "[[0 1 2 3]]"}, {"2|3|1|0", "[[0 1 2 3]]"}, {"3||1|4|0", "[[0 3 4] [1] [2]]"}, {"1|2|3|1|0", "[[1 2 3] [0] [4]]"}, {"4|0|1|2|3", "[[0 1 2 3 4]]"}, {"1|0 2|1 3|2", "[[0 1 2 3]]"},
		// only there, or only back
		{"1|", "[[1] [0]]"}, {"|0", "[[0] [1]]"}, {"1|2|", "[[2] [1] [0]]"}, {"|0|1", "[[0] [1] [2]]"}, {"1 2||", "[[1] [2] [0]]"}, {"1 2|2|", "[[2] [1] [0]]"}, {"2|2|", "[[2] [0] [1]]"},
		// to a round, and from one
		{"1|2|1", "[[1 2] [0]]"}, {"1|0|0", "[[0 1] [2]]"}, {"1|0|1", "[[0 1] [2]]"}, {"1|0 2|", "[[2] [0 1]]"}, {"1 2|0|", "[[2] [0 1]]"}, {"|2 0|1", "[[0] [1 2]]"}, {"1|2|3|2 4||2", "[[4] [2 3] [1] [0] [5]]"}, {"2|0|0 3||1", "[[3] [0 2] [1] [4]]"},
		// two rounds with a member in both
		{"1|0 2|1", "[[0 1 2]]"}, {"1|2 3|0|4|1", "[[0 1 2 3 4]]"}, {"1|2|0 3|4|2", "[[0 1 2 3 4]]"}, {"3|2 4|1|0 4|3 1", "[[0 1 2 3 4]]"}, {"1 2|0|0", "[[0 1 2]]"},
		// two rounds, joined one way or the other, or both
		{"1|0 2|3|2", "[[2 3] [0 1]]"}, {"1|0|3 0|2", "[[0 1] [2 3]]"}, {"1|0|3|2 1", "[[0 1] [2 3]]"}, {"1 3|0|3|2", "[[2 3] [0 1]]"}, {"1|0 2|3|2 0", "[[0 1 2 3]]"}, {"2|3|0 1|1", "[[1 3] [0 2]]"}, {"2|3 0|0|1", "[[0 2] [1 3]]"}, {"1|2|0|4|5 2|3", "[[0 1 2] [3 4 5]]"}, {"1|2 4|0|4|5|3", "[[3 4 5] [0 1 2]]"},
		// three of them in a row
		{"1|0 2|3|2 4|5|4", "[[4 5] [2 3] [0 1]]"}, {"1|0 4|3|2|5 2|4", "[[2 3] [4 5] [0 1]]"}, {"5 1|4|3|2 5|1|0", "[[1 4] [0 5] [2 3]]"},
		// names that stand several times
		{"1 1 1|0 0", "[[0 1]]"}, {"1 1||1 1 1", "[[1] [0] [2]]"}, {"2 1 2 1|2 2|", "[[2] [1] [0]]"}, {"0 0|1 0 1 0", "[[0] [1]]"}, {"1 2 1 2|2 0 2|0 0", "[[0 1 2]]"},
		// behind those that are farther away
		{"1|2|3|4|", "[[4] [3] [2] [1] [0]]"}, {"4|0|1|2|", "[[4] [0] [1] [2] [3]]"}, {"3|2|0||1", "[[3] [0] [2] [1] [4]]"}, {"1 3|2||2", "[[2] [1] [3] [0]]"}, {"1 2|3|3|4|", "[[4] [3] [1] [2] [0]]"},
	} {
		if got := checkGroups(t, edgesOf(t, row.edges)); got != row.want {
			t.Errorf("%s: %s, not %s", row.edges, got, row.want)
		}
	}
}

// Of several that could come next, the one with the least member.
func TestLeastGroupsComeFirst(t *testing.T) {
	for _, row := range []struct{ edges, want string }{
		// it is not the one that is found first
		{"3|||", "[[1] [2] [3] [0]]"}, {"4 2||||", "[[1] [2] [3] [4] [0]]"}, {"5||1|||", "[[1] [2] [3] [4] [5] [0]]"}, {"3 2 1|||", "[[1] [2] [3] [0]]"}, {"4|3|||", "[[2] [3] [1] [4] [0]]"}, {"2|4||0|", "[[2] [0] [3] [4] [1]]"},
		// a greater one sets a lesser one free, which comes ahead of others
		{"2||", "[[1] [2] [0]]"}, {"1|||", "[[1] [0] [2] [3]]"}, {"2|||", "[[1] [2] [0] [3]]"}, {"3|||", "[[1] [2] [3] [0]]"}, {"4|0||||", "[[2] [3] [4] [0] [1] [5]]"}, {"3|0|1||", "[[3] [0] [1] [2] [4]]"}, {"4|4|4|4||", "[[4] [0] [1] [2] [3] [5]]"}, {"2|3|||", "[[2] [0] [3] [1] [4]]"},
		// a lesser one waits for the greatest of all
		{"1 4||||", "[[1] [2] [3] [4] [0]]"}, {"5|5 0||2|1 3|", "[[2] [3] [5] [0] [1] [4]]"},
		// chains among each other
		{"2|3|4|5||", "[[4] [2] [0] [5] [3] [1]]"}, {"||0|1|2|3", "[[0] [1] [2] [3] [4] [5]]"}, {"3|2|5|4||", "[[4] [3] [0] [5] [2] [1]]"}, {"4||0|1||3", "[[1] [3] [4] [0] [2] [5]]"}, {"6|4|7|5|6|7||", "[[6] [0] [4] [1] [7] [2] [5] [3]]"},
		// groups of several, by their least member alone
		{"3|2|1||", "[[1 2] [3] [0] [4]]"}, {"5|4|3|2|1|", "[[1 4] [2 3] [5] [0]]"}, {"|5|3|2||1", "[[0] [1 5] [2 3] [4]]"}, {"4|6|3|2|5|4|1", "[[1 6] [2 3] [4 5] [0]]"}, {"1|0 5|4||2|", "[[2 4] [3] [5] [0 1]]"}, {"6|5|5|4|3|1|", "[[1 5] [2] [3 4] [6] [0]]"},
		// a group that could have come for long
		{"7|7||2|3|4|5||", "[[2] [3] [4] [5] [6] [7] [0] [1] [8]]"}, {"8|||||||1|7", "[[1] [2] [3] [4] [5] [6] [7] [8] [0]]"},
	} {
		if got := checkGroups(t, edgesOf(t, row.edges)); got != row.want {
			t.Errorf("%s: %s, not %s", row.edges, got, row.want)
		}
	}
}

// roundThrough has things that lead round in an order.
func roundThrough(order []int64) [][]int64 {
	edges := make([][]int64, len(order))
	for i, thing := range order {
		edges[thing] = []int64{order[(i+1)%len(order)]}
	}
	return edges
}

// eachOrder calls with each order of so many things.
func eachOrder(count int, do func([]int64)) {
	var fill func(order []int64)
	fill = func(order []int64) {
		if len(order) == count {
			do(slices.Clone(order))
			return
		}
		for thing := range int64(count) {
			if !slices.Contains(order, thing) {
				fill(append(slices.Clone(order), thing))
			}
		}
	}
	fill(nil)
}

// Rounds through all in each order are one group; without one step they are a line, told from its end on.
func TestRoundsAndLinesInEachOrder(t *testing.T) {
	for count := 1; count <= 6; count++ {
		all := make([]int64, count)
		for i := range all {
			all[i] = int64(i)
		}
		eachOrder(count, func(order []int64) {
			edges := roundThrough(order)
			if got := checkGroups(t, edges); got != fmt.Sprint([][]int64{all}) {
				t.Errorf("%v: %s", edges, got)
			}
			edges[order[count-1]] = nil
			var want [][]int64
			for i := range order {
				want = append(want, []int64{order[count-1-i]})
			}
			if got := checkGroups(t, edges); got != fmt.Sprint(want) {
				t.Errorf("%v: %s, not %v", edges, got, want)
			}
		})
	}
}

// Things have no order of their own among the names of one: neither that nor how often they stand turns anything.
func TestGroupsHangOnNamesAlone(t *testing.T) {
	for _, text := range []string{"1 2 3|2|3 0|4|", "3 4 1|0 2 4|1|4|3", "1 2|3 4|3 4|5|5|0", "5 1 3|2 3|4|3 4 5|2|"} {
		edges := edgesOf(t, text)
		want := checkGroups(t, edges)
		for thing, names := range edges {
			other := slices.Clone(edges)
			eachOrder(len(names), func(order []int64) {
				other[thing] = nil
				for _, at := range order {
					other[thing] = append(other[thing], names[at], names[at], names[order[0]])
				}
				if got := checkGroups(t, other); got != want {
					t.Errorf("%v: %s, not %s", other, got, want)
				}
			})
		}
	}
}
