package tests

import (
	"slices"
	"strconv"
	"sync"
	"testing"

	"loop.example/g00017/impl"
)

// A coverCall has the arguments of Cover.
type coverCall struct {
	list []impl.Node
	rows [][]impl.Node
	open []bool
}

func (c coverCall) answer() string {
	return coverText(impl.Cover(c.list, c.rows, c.open))
}

// coverCalls has calls of each kind of answer.
func coverCalls(t *testing.T) []coverCall {
	t.Helper()
	list := modulesOf(t, "module M where { "+coverDatas+"}")
	m := newPatternMaker(t, list, 7)
	wrong := modulesOf(t, "module M where { data D = D E }")
	calls := []coverCall{{}, {list: list}, {list: wrong, rows: alone(tree(impl.PWild, ""))}, {rows: [][]impl.Node{nil, {}, nil}, open: []bool{true}}, {list: list, rows: [][]impl.Node{{tree(impl.PWild, "")}, {}}}, {rows: alone(tree(impl.PStr, "abc"), tree(impl.PStr, "abd"), tree(impl.PStr, "ab"), tree(impl.PStr, "abc"), tree(impl.PList, "", tree(impl.PChar, "a"), tree(impl.PVar, "x")))}}
	for range 150 {
		rows, open := m.rows(3)
		calls = append(calls, coverCall{list, rows, open}, coverCall{list, m.spoil(rows), open})
	}
	return calls
}

// roomyCall copies the arguments, with something in the room behind each list.
func (c coverCall) roomyCall() coverCall {
	behind := tree(-7, "behind")
	rows := roomy(c.rows, []impl.Node{behind}, func(row []impl.Node) []impl.Node { return roomy(row, behind, roomyTree) })
	return coverCall{roomy(c.list, behind, roomyTree), rows, roomy(c.open, true, func(b bool) bool { return b })}
}

func isBehind(n impl.Node) bool { return n.Kind == -7 && n.Name == "behind" && n.Kids == nil }

// isKept says whether a roomy copy is still one of the call.
func (c coverCall) isKept(own coverCall) bool {
	changed := func(n impl.Node) bool { return !roomKept(n) }
	for i, row := range own.rows {
		if !slices.EqualFunc(row, c.rows[i], sameSlowly) || slices.ContainsFunc(row, changed) || !isBehind(row[:len(row)+1][len(row)]) {
			return false
		}
	}
	lastRow := own.rows[:len(own.rows)+1][len(own.rows)]
	return len(own.rows) == len(c.rows) && len(lastRow) == 1 && isBehind(lastRow[0]) &&
		slices.EqualFunc(own.list, c.list, sameSlowly) && !slices.ContainsFunc(own.list, changed) && isBehind(own.list[:len(own.list)+1][len(own.list)]) &&
		slices.Equal(own.open, c.open) && own.open[:len(own.open)+1][len(own.open)]
}

func TestCoverChangesNothing(t *testing.T) {
	seen := map[int64]int{}
	for _, c := range coverCalls(t) {
		own := c.roomyCall()
		got := own.answer()
		if !c.isKept(own) {
			t.Errorf("%s\nis changed", rowsText(c.rows))
		}
		if got != c.answer() || got != own.answer() {
			t.Errorf("%s\nhangs on what stands behind a list", rowsText(c.rows))
		}
		r := impl.Cover(own.list, own.rows, own.open)
		seen[r.Code]++
		clear(r.Redundant[:cap(r.Redundant)])
		if !c.isKept(own) || got != own.answer() {
			t.Errorf("%s\nis told another way behind a change of what was told", rowsText(c.rows))
		}
	}
	if seen[0] < 100 || seen[1] < 20 {
		t.Errorf("there are %v", seen)
	}
}

// Rows, patterns and the list may lie in one memory.
func TestCoverOfSharedMemory(t *testing.T) {
	for _, c := range coverCalls(t) {
		known := map[string][]impl.Node{}
		own := coverCall{open: c.open}
		for _, n := range c.list {
			own.list = append(own.list, sharing(n, known))
		}
		for _, row := range c.rows {
			own.rows = append(own.rows, sharing(tree(0, "", row...), known).Kids)
		}
		if got, want := own.answer(), c.answer(); got != want {
			t.Errorf("%s\nis %s, not %s", rowsText(c.rows), got, want)
		}
		if len(own.rows) > 0 && len(own.rows) <= 30 {
			twice := coverCall{own.list, slices.Concat(own.rows, own.rows), nil}
			if got := impl.Cover(twice.list, twice.rows, nil); got.Code == 0 && len(got.Redundant) < len(own.rows) {
				t.Errorf("%s\ntwice is %v", rowsText(c.rows), got)
			}
		}
	}
}

// warningLists has lists of modules with warnings and without.
func warningLists(t *testing.T) [][]impl.Node {
	t.Helper()
	return append(slices.Concat(tableLists(t), severalPrograms(t)), modulesOf(t, "module M where { "+coverDatas+"f True = case 1 of { 1 -> y } where { y [ ] = 1 ; y [ ] = 2 } ; g x | x = 1 ; class K a where { m :: a } ; instance K T where { m = h where { h A = 1 ; h A = 2 } } }"), modulesOf(t, "module Main where { main x = case x of { \"a\" -> x } }"))
}

func TestWarningsChangeNothing(t *testing.T) {
	behind := tree(-7, "behind")
	count := 0
	for _, list := range warningLists(t) {
		own := roomy(list, behind, roomyTree)
		got := impl.Warnings(own)
		want := warningsText(got)
		count += len(got)
		isKept := func() bool {
			return slices.EqualFunc(own, list, sameSlowly) && !slices.ContainsFunc(own, func(n impl.Node) bool { return !roomKept(n) }) && isBehind(own[:len(own)+1][len(own)])
		}
		if !isKept() || want != warningsText(impl.Warnings(list)) {
			t.Errorf("%s is changed, or hangs on what stands behind a list", want)
		}
		var texts, given []memory
		for _, w := range got {
			texts = append(texts, textMemory(w.Name)...)
		}
		for _, text := range textsIn(tree(0, "", own...), nil) {
			given = append(given, textMemory(text)...)
		}
		if touches(texts, given) {
			t.Errorf("%s: a text lies in an argument", want)
		}
		other := impl.Warnings(own)
		if !apart(slices.Concat(memoryOf(got), memoryOf(other))) {
			t.Errorf("%s: two answers share memory", want)
		}
		clear(got[:cap(got)])
		if !isKept() || warningsText(other) != want || warningsText(impl.Warnings(own)) != want {
			t.Errorf("%s is told another way behind a change of it", want)
		}
	}
	if count < 20 {
		t.Errorf("there are but %d", count)
	}
}

// All calls at once answer what each alone does.
func TestCoveringAtOnce(t *testing.T) {
	calls, lists := coverCalls(t), warningLists(t)
	want := make([]string, len(calls))
	warned := make([]string, len(lists))
	for i, c := range calls {
		want[i] = c.answer()
	}
	for i, list := range lists {
		warned[i] = warningsText(impl.Warnings(list))
	}
	var all sync.WaitGroup
	for i, c := range calls {
		all.Go(func() {
			if got := c.answer(); got != want[i] {
				t.Errorf("at once it is %s, not %s", got, want[i])
			}
		})
	}
	for i, list := range lists {
		all.Go(func() {
			if got := warningsText(impl.Warnings(list)); got != warned[i] {
				t.Errorf("at once it is %s, not %s", got, warned[i])
			}
		})
	}
	all.Wait()
}

// A tree may come back to itself; it then has more nodes than may be.
func TestCoverOfTreesWithoutAnEnd(t *testing.T) {
	wild := tree(impl.PWild, "")
	for _, kind := range []int64{impl.PAs, impl.PLazy, impl.PBang, impl.PList, impl.PTuple, impl.PCon, impl.POps, impl.NApp, 0, -3} {
		kids := make([]impl.Node, 2)
		for i := range kids {
			kids[i] = impl.Node{Kind: kind, Name: ":", Kids: kids}
		}
		for _, rows := range [][][]impl.Node{alone(kids[0]), alone(wild, tree(impl.PList, "", wild, kids[1])), {kids, kids}} {
			if r := impl.Cover(nil, rows, nil); r.Code != 1 {
				t.Errorf("%d is %v", kind, r)
			}
		}
		if r := impl.Cover(kids, alone(wild), nil); r.Code != 1 {
			t.Errorf("%d is %v", kind, r)
		}
		if got := impl.Warnings(kids); got != nil {
			t.Errorf("%d is %v", kind, got)
		}
	}
	one := make([]impl.Node, 1)
	one[0] = tree(impl.PLazy, "", one...)
	one[0].Kids = one
	if r := impl.Cover(nil, alone(one[0]), nil); r.Code != 1 {
		t.Errorf("is %v", r)
	}
	module := make([]impl.Node, 3)
	for i := range module {
		module[i] = impl.Node{Kind: impl.DModule, Name: "M" + strconv.Itoa(i), Kids: module}
	}
	if r := impl.Cover(module, alone(wild), nil); r.Code != 1 || impl.Warnings(module) != nil {
		t.Errorf("is %v", r)
	}
}
