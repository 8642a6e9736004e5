package tests

import (
	"math/rand/v2"
	"slices"
	"strconv"
	"testing"

	"loop.example/g00017/impl"
)

// A patternMaker draws patterns of types of coverDatas.
type patternMaker struct {
	*rand.Rand
	tables impl.Tables
}

func newPatternMaker(t *testing.T, list []impl.Node, seed uint64) *patternMaker {
	t.Helper()
	r := impl.TableOf(list)
	if r.Code != 0 {
		t.Fatal(r.Code, r.Name)
	}
	return &patternMaker{rand.New(rand.NewPCG(12, seed)), r.Tables}
}

func (m *patternMaker) typeOf(levels int) impl.Type {
	inner := func() impl.Type { return m.typeOf(levels - 1) }
	simple := []impl.Type{typeCon("Bool"), typeCon("M.E"), typeCon("Int"), typeCon("Char"), listOf(typeCon("Char")), typeCon("M.T"), typeCon("()")}
	if levels <= 1 || m.IntN(3) == 0 {
		return simple[m.IntN(len(simple))]
	}
	switch m.IntN(9) {
	case 0:
		return typeCon("M.P", inner(), inner())
	case 1:
		return typeCon("M.Q", inner())
	case 2:
		return typeCon("M.R", inner())
	case 3, 4:
		return typeCon("M.M", inner())
	case 5:
		return typeCon("M.L", inner())
	case 6:
		return listOf(inner())
	case 7:
		return typeCon([]string{"M.S", "M.X"}[m.IntN(2)])
	}
	return tupleOf([]impl.Type{inner(), inner()})
}

// pattern draws one of a type, as deep as levels say at most, but for what is only around it.
func (m *patternMaker) pattern(t impl.Type, levels int) impl.Node {
	switch around := m.IntN(24); {
	case levels <= 0 || m.IntN(4) == 0:
		return []impl.Node{tree(impl.PWild, ""), tree(impl.PVar, "x")}[m.IntN(2)]
	case around < 3:
		return tree([]int64{impl.PAs, impl.PLazy, impl.PBang}[around], []string{"y", "", ""}[around], m.pattern(t, levels))
	}
	switch t.Name {
	case "Int":
		return tree(impl.PNum, strconv.Itoa(m.IntN(4)-1))
	case "Char":
		return tree(impl.PChar, string(rune('a'+m.IntN(3))))
	}
	if t.Name == "[]" && t.Args[0].Name == "Char" && m.IntN(2) == 0 {
		return tree(impl.PStr, []string{"", "a", "ab", "b", "abc", "aab"}[m.IntN(6)])
	}
	if t.Name == "[]" && m.IntN(2) == 0 {
		own := tree(impl.PList, "")
		for range m.IntN(3) {
			own.Kids = append(own.Kids, m.pattern(t.Args[0], levels-1))
		}
		return own
	}
	var cons []impl.ConInfo
	for _, c := range m.tables.Cons {
		if c.Data == t.Name {
			cons = append(cons, c)
		}
	}
	con := cons[m.IntN(len(cons))]
	own := tree(impl.PCon, con.Name)
	types := map[int64]impl.Type{}
	for i, arg := range t.Args {
		types[int64(i)] = arg
	}
	for _, field := range con.Fields {
		own.Kids = append(own.Kids, m.pattern(placed(field, impl.TyGen, types), levels-1))
	}
	if con.Name[0] == '(' && m.IntN(2) == 0 {
		return tree(impl.PTuple, "", own.Kids...)
	}
	return own
}

// rows draws rows, and which of them are open.
func (m *patternMaker) rows(levels int) (rows [][]impl.Node, open []bool) {
	var types []impl.Type
	for range 1 + m.IntN(3) {
		types = append(types, m.typeOf(levels))
	}
	for range 1 + m.IntN(9) {
		var row []impl.Node
		for _, t := range types {
			row = append(row, m.pattern(t, levels))
		}
		rows = append(rows, row)
	}
	for range m.IntN(len(rows) + 2) {
		open = append(open, m.IntN(4) == 0)
	}
	return rows, open
}

// spoil puts something else in the place of one pattern.
func (m *patternMaker) spoil(rows [][]impl.Node) [][]impl.Node {
	at, column := m.IntN(len(rows)), 0
	row := slices.Clone(rows[at])
	column = m.IntN(len(row))
	count := m.IntN(int(impl.NodeCount(row[column])))
	var turned func(n impl.Node) impl.Node
	turned = func(n impl.Node) impl.Node {
		count--
		if count == -1 {
			return m.pattern(m.typeOf(2), 2)
		}
		own := tree(n.Kind, n.Name)
		for _, kid := range n.Kids {
			own.Kids = append(own.Kids, turned(kid))
		}
		return own
	}
	row[column] = turned(row[column])
	own := slices.Clone(rows)
	own[at] = row
	return own
}

// valueCount is how many values the second reading would go through.
func (s slowMatcher) valueCount(rows [][]impl.Node) int {
	count := 1
	for at := range rows[0] {
		var patterns []impl.Node
		for _, row := range rows {
			patterns = append(patterns, row[at])
		}
		count = min(count*s.valuesAt(patterns), 1000000)
	}
	return count
}

func (s slowMatcher) valuesAt(patterns []impl.Node) int {
	told := telling(patterns)
	if len(told) == 0 {
		return 1
	}
	data := s.typeOf(told[0])
	if data == "Int" || data == "Char" {
		return len(namesAt(told)) + 1
	}
	sum := 0
	for _, con := range s.consOf(data) {
		of := 1
		for at := range impl.FindCon(s.tables, con).Fields {
			of = min(of*s.valuesAt(column(told, con, at)), 1000000)
		}
		sum = min(sum+of, 1000000)
	}
	return sum
}

func TestDrawnCovers(t *testing.T) {
	list := []impl.Node{parsed(t, "module M where { "+coverDatas+"}")}
	m := newPatternMaker(t, list, 1)
	s := slowMatcher{m.tables}
	seen := map[string]int{}
	for range 6000 {
		rows, open := m.rows(1 + m.IntN(4))
		if m.IntN(8) == 0 {
			rows = m.spoil(rows)
		}
		want := impl.CoverResult{Code: 1}
		if !s.isOdd(rows) {
			if s.valueCount(rows) > 3000 {
				seen["large"]++
				continue
			}
			want = s.cover(rows, open)
		}
		got := impl.Cover(list, rows, open)
		if coverText(got) != coverText(want) {
			t.Fatalf("%s\n%v\nis %s, not %s", rowsText(rows), open, coverText(got), coverText(want))
		}
		switch {
		case got.Code != 0:
			seen["code"]++
		case len(got.Redundant) > 0:
			seen["redundant"]++
		case got.All:
			seen["all"]++
		default:
			seen["left out"]++
		}
	}
	if seen["code"] < 100 || seen["redundant"] < 500 || seen["all"] < 100 || seen["left out"] < 500 || seen["large"] > 1500 {
		t.Errorf("there are %v", seen)
	}
}

// What matches does not hang on the order of columns, on what is only around patterns, or on how lists are written.
func TestCoversOfOneMeaning(t *testing.T) {
	list := []impl.Node{parsed(t, "module M where { "+coverDatas+"}")}
	m := newPatternMaker(t, list, 2)
	for range 400 {
		rows, open := m.rows(4)
		want := coverText(impl.Cover(list, rows, open))
		var turned, bare, cells [][]impl.Node
		for _, row := range rows {
			reversed := slices.Clone(row)
			slices.Reverse(reversed)
			turned = append(turned, reversed)
			var own, celled []impl.Node
			for _, p := range row {
				own = append(own, mapTree(p, unwrapped))
				celled = append(celled, byCells(p))
			}
			bare, cells = append(bare, own), append(cells, celled)
		}
		for _, other := range [][][]impl.Node{turned, bare, cells} {
			if got := coverText(impl.Cover(list, other, open)); got != want {
				t.Errorf("%s\nis %s, but\n%s\nis %s", rowsText(rows), want, rowsText(other), got)
			}
		}
	}
}

// byCells has all lists, strings and tuples of a pattern by constructors.
func byCells(p impl.Node) impl.Node {
	own := tree(p.Kind, p.Name)
	if p.Kind == impl.PList || p.Kind == impl.PStr || p.Kind == impl.PTuple {
		own = cellsOf(p)
		p = own
		own.Kids = nil
	}
	for _, kid := range p.Kids {
		own.Kids = append(own.Kids, byCells(kid))
	}
	return own
}

// More rows leave nothing more out; a row that is told redundant can go, and nothing else changes; one that is not can't go without a loss if what is behind it is gone, too.
func TestRedundantRowsCanGo(t *testing.T) {
	list := []impl.Node{parsed(t, "module M where { "+coverDatas+"}")}
	m := newPatternMaker(t, list, 3)
	gone := 0
	for range 600 {
		rows, open := m.rows(3)
		open = append(open, make([]bool, len(rows))...)[:len(rows)]
		r := impl.Cover(list, rows, open)
		if r.Code != 0 {
			continue
		}
		for i := range rows {
			ahead := impl.Cover(list, rows[:i+1], open)
			if slices.Contains(r.Redundant, int64(i)) != slices.Contains(ahead.Redundant, int64(i)) {
				t.Errorf("%s\nrow %d hangs on those behind it", rowsText(rows), i)
			}
			if i > 0 && impl.Cover(list, rows[:i], open).All && !ahead.All {
				t.Errorf("%s\nrow %d leaves more out", rowsText(rows), i)
			}
		}
		if len(r.Redundant) == 0 || len(rows) == 1 {
			continue
		}
		at := int(r.Redundant[m.IntN(len(r.Redundant))])
		less := impl.Cover(list, slices.Delete(slices.Clone(rows), at, at+1), slices.Delete(slices.Clone(open), at, at+1))
		if less.Code != 0 || less.All != r.All || len(less.Redundant) != len(r.Redundant)-1 {
			t.Errorf("%s\nwithout row %d is %v, not %v", rowsText(rows), at, less, r)
		}
		gone++
	}
	if gone < 100 {
		t.Errorf("there are but %d", gone)
	}
}
