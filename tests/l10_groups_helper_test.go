package tests

import (
	"fmt"
	"slices"
	"strconv"
	"strings"
	"testing"

	"loop.example/g00017/impl"
)

// edgesOf reads what things name: "1 2|0|" has three things, of which the last one names nothing.
func edgesOf(t *testing.T, text string) [][]int64 {
	t.Helper()
	var edges [][]int64
	for _, names := range strings.Split(text, "|") {
		var list []int64
		for _, name := range strings.Fields(names) {
			number, err := strconv.ParseInt(name, 10, 64)
			if err != nil {
				t.Fatal(err)
			}
			list = append(list, number)
		}
		edges = append(edges, list)
	}
	return edges
}

// leadsSlowly tells of each two things whether the one leads to the other, by one step and by ever more.
func leadsSlowly(edges [][]int64) [][]bool {
	count := len(edges)
	leads := make([][]bool, count)
	for i, names := range edges {
		leads[i] = make([]bool, count)
		for _, name := range names {
			if name >= 0 && name < int64(count) {
				leads[i][name] = true
			}
		}
	}
	for by := range count {
		for i := range count {
			for j := range count {
				leads[i][j] = leads[i][j] || leads[i][by] && leads[by][j]
			}
		}
	}
	return leads
}

// groupsSlowly takes the document's words one by one.
func groupsSlowly(edges [][]int64) [][]int64 {
	leads := leadsSlowly(edges)
	var groups, ordered [][]int64
	for i := range edges {
		var members []int64
		for j := range edges {
			if i == j || leads[i][j] && leads[j][i] {
				members = append(members, int64(j))
			}
		}
		if members[0] == int64(i) {
			groups = append(groups, members)
		}
	}
	told := make([]bool, len(edges))
	for len(groups) > 0 {
		// they stand by their least members, so that the first one that could come is the least one
		next := slices.IndexFunc(groups, func(members []int64) bool {
			for j := range edges {
				if leads[members[0]][j] && !told[j] && !slices.Contains(members, int64(j)) {
					return false
				}
			}
			return true
		})
		for _, member := range groups[next] {
			told[member] = true
		}
		ordered = append(ordered, groups[next])
		groups = slices.Delete(groups, next, next+1)
	}
	return ordered
}

// checkGroups holds what is told against the second reading.
func checkGroups(t *testing.T, edges [][]int64) string {
	t.Helper()
	got := fmt.Sprint(impl.Groups(edges))
	if want := fmt.Sprint(groupsSlowly(edges)); got != want {
		t.Fatalf("%v: %s, not %s", edges, got, want)
	}
	return got
}

// A groupCheck looks at groups that are too many for the second reading.
type groupCheck struct {
	edges  [][]int64
	groups [][]int64
	at     []int // of each thing, where its group stands
}

// checkGroupLaws asks of what is told all that the document says of it.
func checkGroupLaws(t *testing.T, what string, edges [][]int64) [][]int64 {
	t.Helper()
	c := groupCheck{edges: edges, groups: impl.Groups(edges), at: make([]int, len(edges))}
	if told := c.missing(); told != "" {
		t.Fatalf("%s: %s", what, told)
	}
	if told := c.misplaced(); told != "" {
		t.Fatalf("%s: %s", what, told)
	}
	if told := c.unled(); told != "" {
		t.Fatalf("%s: %s", what, told)
	}
	return c.groups
}

// missing tells what is wrong if not all things stand in a group, once, and rising.
func (c *groupCheck) missing() string {
	count := 0
	for i := range c.at {
		c.at[i] = -1
	}
	for at, members := range c.groups {
		if len(members) == 0 {
			return "a group of none"
		}
		for i, member := range members {
			if member < 0 || member >= int64(len(c.edges)) || c.at[member] >= 0 || i > 0 && members[i-1] > member {
				return fmt.Sprintf("%d in group %d", member, at)
			}
			c.at[member] = at
			count++
		}
	}
	if count != len(c.edges) {
		return fmt.Sprintf("%d of %d things", count, len(c.edges))
	}
	return ""
}

// misplaced tells of a group that stands ahead of one that it leads to, or behind one that is greater where it could have stood ahead of it.
func (c *groupCheck) misplaced() string {
	for at, members := range c.groups {
		first := 0
		for _, member := range members {
			for _, name := range c.edges[member] {
				if name < 0 || name >= int64(len(c.edges)) || c.at[name] == at {
					continue
				}
				if c.at[name] > at {
					return fmt.Sprintf("%d leads to %d, which stands behind it", member, name)
				}
				first = max(first, c.at[name]+1)
			}
		}
		for _, ahead := range c.groups[first:at] {
			if ahead[0] > members[0] {
				return fmt.Sprintf("%d stands behind %d", members[0], ahead[0])
			}
		}
	}
	return ""
}

// unled tells of a group in which the first member does not lead to all, or not all to it, inside of the group.
func (c *groupCheck) unled() string {
	back := make([][]int64, len(c.edges))
	for i, names := range c.edges {
		for _, name := range names {
			if name >= 0 && name < int64(len(c.edges)) && c.at[name] == c.at[i] {
				back[name] = append(back[name], int64(i))
			}
		}
	}
	for at, members := range c.groups {
		if c.reached(c.edges, members[0]) != len(members) || c.reached(back, members[0]) != len(members) {
			return fmt.Sprintf("group %d of %d", at, len(members))
		}
	}
	return ""
}

// reached counts the members of a group to which one of them leads.
func (c *groupCheck) reached(edges [][]int64, from int64) int {
	known := map[int64]bool{from: true}
	for waiting := []int64{from}; len(waiting) > 0; waiting = waiting[1:] {
		for _, name := range edges[waiting[0]] {
			if name >= 0 && name < int64(len(edges)) && c.at[name] == c.at[from] && !known[name] {
				known[name] = true
				waiting = append(waiting, name)
			}
		}
	}
	return len(known)
}
