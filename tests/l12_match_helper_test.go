package tests

import (
	"fmt"
	"slices"
	"strconv"
	"strings"
	"testing"

	"loop.example/g00017/impl"
)

// The second reading of chapter 12: all values that patterns can tell from each other are gone through, and each is held against the patterns as they are written.

// A slowValue is a constructor with fields, a number (#7), a char ('a), or one of which no pattern tells anything (?).
type slowValue struct {
	con    string
	fields []slowValue
}

// otherThan is a number or char that is none of those given.
const otherThan = "other"

type slowMatcher struct {
	tables impl.Tables
}

// unwrapped is a pattern without as-patterns, lazy and strict ones around it.
func unwrapped(p impl.Node) impl.Node {
	switch p.Kind {
	case impl.PAs, impl.PLazy, impl.PBang:
		return unwrapped(p.Kids[0])
	}
	return p
}

// cellsOf is a list or string pattern by constructors.
func cellsOf(p impl.Node) impl.Node {
	switch {
	case p.Kind == impl.PTuple:
		return tree(impl.PCon, tupleOf(make([]impl.Type, len(p.Kids))).Name, p.Kids...)
	case p.Kind == impl.PStr && p.Name == "", p.Kind == impl.PList && len(p.Kids) == 0:
		return tree(impl.PCon, "[]")
	case p.Kind == impl.PStr:
		return tree(impl.PCon, ":", tree(impl.PChar, p.Name[:1]), tree(impl.PStr, p.Name[1:]))
	case p.Kind == impl.PList:
		return tree(impl.PCon, ":", p.Kids[0], tree(impl.PList, "", p.Kids[1:]...))
	}
	return p
}

// telling has the patterns that tell values from others, by constructors.
func telling(patterns []impl.Node) []impl.Node {
	var list []impl.Node
	for _, p := range patterns {
		if p = unwrapped(p); p.Kind != impl.PVar && p.Kind != impl.PWild {
			list = append(list, cellsOf(p))
		}
	}
	return list
}

func (s slowMatcher) typeOf(p impl.Node) string {
	switch p.Kind {
	case impl.PNum:
		return "Int"
	case impl.PChar:
		return "Char"
	}
	return impl.FindCon(s.tables, p.Name).Data
}

// consOf has the constructors of a data.
func (s slowMatcher) consOf(data string) []string {
	for _, d := range s.tables.Datas {
		if d.Name == data {
			return d.Cons
		}
	}
	return nil
}

// namesAt has the different names of patterns.
func namesAt(patterns []impl.Node) []string {
	names := textsOf(patterns, func(p impl.Node) string { return p.Name })
	slices.Sort(names)
	return slices.Compact(names)
}

// column has the patterns of a field of all that are of a constructor.
func column(patterns []impl.Node, con string, at int) []impl.Node {
	var list []impl.Node
	for _, p := range patterns {
		if p.Name == con {
			list = append(list, p.Kids[at])
		}
	}
	return list
}

// values has one of each that the patterns at a place tell apart.
func (s slowMatcher) values(patterns []impl.Node) []slowValue {
	told := telling(patterns)
	if len(told) == 0 {
		return []slowValue{{con: "?"}}
	}
	data := s.typeOf(told[0])
	var list []slowValue
	switch data {
	case "Int", "Char":
		for _, name := range namesAt(told) {
			list = append(list, slowValue{con: name})
		}
		return append(list, slowValue{con: otherThan})
	}
	for _, con := range s.consOf(data) {
		var fields [][]slowValue
		for at := range impl.FindCon(s.tables, con).Fields {
			fields = append(fields, s.values(column(told, con, at)))
		}
		for _, each := range everyWay(fields) {
			list = append(list, slowValue{con, each})
		}
	}
	return list
}

// everyWay takes one of each list, in every way.
func everyWay(lists [][]slowValue) [][]slowValue {
	ways := [][]slowValue{nil}
	for _, list := range lists {
		var more [][]slowValue
		for _, way := range ways {
			for _, v := range list {
				more = append(more, append(slices.Clip(way), v))
			}
		}
		ways = more
	}
	return ways
}

func matchesSlowly(p impl.Node, v slowValue) bool {
	p = unwrapped(p)
	if p.Kind == impl.PVar || p.Kind == impl.PWild {
		return true
	}
	p = cellsOf(p)
	return p.Name == v.con && matchAllSlowly(p.Kids, v.fields)
}

func matchAllSlowly(patterns []impl.Node, values []slowValue) bool {
	for i, p := range patterns {
		if !matchesSlowly(p, values[i]) {
			return false
		}
	}
	return true
}

// ways are those of a place, as the document has them, cut at a million.
func (s slowMatcher) ways(patterns []impl.Node) int {
	told := telling(patterns)
	if len(told) == 0 {
		return 1
	}
	names := namesAt(told)
	sum, greatest := 0, 1
	for _, name := range names {
		of := 1
		for _, p := range told {
			if p.Name == name {
				for at := range p.Kids {
					of = min(of*s.ways(column(told, name, at)), 1000000)
				}
				break
			}
		}
		sum += of
		greatest = max(greatest, of)
	}
	data := s.typeOf(told[0])
	if data != "Int" && len(names) == len(s.consOf(data)) || data == "Char" && len(names) == 256 {
		return min(sum, 1000000)
	}
	return greatest
}

// differ says whether two patterns in one place are of different types.
func (s slowMatcher) differ(patterns []impl.Node) bool {
	told := telling(patterns)
	for _, p := range told {
		if s.typeOf(p) != s.typeOf(told[0]) {
			return true
		}
	}
	for _, name := range namesAt(told) {
		one := told[slices.IndexFunc(told, func(p impl.Node) bool { return p.Name == name })]
		for at := range one.Kids {
			if s.differ(column(told, name, at)) {
				return true
			}
		}
	}
	return false
}

// isNone says whether a tree is no pattern that Cover takes.
func (s slowMatcher) isNone(p impl.Node, level int) bool {
	bare := p
	switch p.Kind {
	case impl.PVar, impl.PAs:
		bare.Name = "x"
	case impl.PCon:
		bare.Name = "X"
		con := impl.FindCon(s.tables, p.Name)
		if con.Name != p.Name || len(con.Fields) != len(p.Kids) || con.Data == "" {
			return true
		}
	case impl.PTuple:
		bare.Name = ""
		if len(p.Kids) > 7 {
			return true
		}
	case impl.PNum, impl.PChar, impl.PStr:
	case impl.PWild, impl.PList, impl.PLazy, impl.PBang:
		bare.Name = ""
	default:
		return true
	}
	bare.Kids = nil
	for _, kid := range p.Kids {
		if s.isNone(kid, level+1) {
			return true
		}
		bare.Kids = append(bare.Kids, tree(impl.PWild, ""))
	}
	return impl.NodeFault(bare) != 0 || level > impl.MaxDeep
}

func (s slowMatcher) isOdd(rows [][]impl.Node) bool {
	if len(rows) == 0 || len(rows) > 60 {
		return true
	}
	ways := 1
	for _, row := range rows {
		if len(row) != len(rows[0]) {
			return true
		}
		for _, p := range row {
			if impl.NodeCount(p) > 400 || s.isNone(p, 1) {
				return true
			}
		}
	}
	for at := range rows[0] {
		var patterns []impl.Node
		for _, row := range rows {
			patterns = append(patterns, row[at])
		}
		if s.differ(patterns) {
			return true
		}
		ways = min(ways*s.ways(patterns), 1000000)
	}
	return ways > 10000
}

// coverSlowly is what Cover is to answer.
func coverSlowly(list []impl.Node, rows [][]impl.Node, open []bool) impl.CoverResult {
	tables := tablesSlowly(list)
	s := slowMatcher{tables.Tables}
	if tables.Code != 0 || s.isOdd(rows) {
		return impl.CoverResult{Code: 1}
	}
	return s.cover(rows, open)
}

func (s slowMatcher) cover(rows [][]impl.Node, open []bool) impl.CoverResult {
	var columns [][]slowValue
	for at := range rows[0] {
		var patterns []impl.Node
		for _, row := range rows {
			patterns = append(patterns, row[at])
		}
		columns = append(columns, s.values(patterns))
	}
	r := impl.CoverResult{All: true}
	needed := make([]bool, len(rows))
	for _, values := range everyWay(columns) {
		taken := false
		for i, row := range rows {
			if taken || !matchAllSlowly(row, values) {
				continue
			}
			needed[i] = true
			taken = i >= len(open) || !open[i]
		}
		r.All = r.All && taken
	}
	for i, isNeeded := range needed {
		if !isNeeded {
			r.Redundant = append(r.Redundant, int64(i))
		}
	}
	return r
}

// warningsSlowly is what Warnings is to answer.
func warningsSlowly(list []impl.Node) []impl.Warning {
	tables := tablesSlowly(list)
	if tables.Code != 0 {
		return nil
	}
	s := slowMatcher{tables.Tables}
	decls := resolveSlowly(list).Decls
	var found []impl.Warning
	var look func(name string, n impl.Node)
	warn := func(name string, list []impl.Node) {
		var rows [][]impl.Node
		var open []bool
		for _, n := range list {
			last := len(n.Kids) - 1
			rows = append(rows, n.Kids[:last])
			guards := kidsOf(n.Kids[last], impl.NGuard)
			holds := slices.ContainsFunc(guards, func(g impl.Node) bool { return sameSlowly(g.Kids[0], tree(impl.NCon, "True")) })
			open = append(open, len(guards) > 0 && !holds)
		}
		r := impl.CoverResult{}
		if !s.isOdd(rows) {
			r = s.cover(rows, open)
		}
		if !r.All {
			found = append(found, impl.Warning{Name: name, Kind: 1})
		}
		for _, row := range r.Redundant {
			found = append(found, impl.Warning{Name: name, Kind: 2, Row: row + 1})
		}
	}
	lookAll := func(name string, kids []impl.Node) {
		things := slowThings(kids)
		for _, kid := range kids {
			if kid.Kind != impl.DClause {
				look(name, kid)
				continue
			}
			if len(things) == 0 || things[0].name != kid.Name {
				continue
			}
			own := name
			if own == "" {
				own = kid.Name
			}
			warn(own, things[0].clauses)
			for _, c := range things[0].clauses {
				for _, inner := range c.Kids {
					look(own, inner)
				}
			}
			things = things[1:]
		}
	}
	look = func(name string, n impl.Node) {
		if n.Kind == impl.NCase {
			warn(name, n.Kids[1:])
		}
		if n.Kind == impl.DInst {
			name = n.Name
		}
		lookAll(name, n.Kids)
	}
	lookAll("", decls)
	return found
}

func coverText(r impl.CoverResult) string {
	if r.Code != 0 {
		return strings.TrimSpace(fmt.Sprintln("code", r.Code, textsOf(r.Redundant, func(i int64) string { return strconv.FormatInt(i, 10) })))
	}
	return strings.TrimSuffix(fmt.Sprintf("%v %v", r.All, r.Redundant), " []")
}

func rowsText(rows [][]impl.Node) string {
	return strings.Join(textsOf(rows, func(row []impl.Node) string { return joined(row, " ", kinded) }), "\n")
}

// checkCover holds what is answered against the second reading.
func checkCover(t *testing.T, list []impl.Node, rows [][]impl.Node, open []bool) impl.CoverResult {
	t.Helper()
	got, want := impl.Cover(list, rows, open), coverSlowly(list, rows, open)
	if coverText(got) != coverText(want) {
		t.Errorf("%.2000s\n%v\nis %s, not %s", rowsText(rows), open, coverText(got), coverText(want))
	}
	return got
}

// coverDatas are those that the rows of tests are of.
const coverDatas = "data T = A | B Int | C T T ; data P a b = P a b ; data Q a = Q a ; data S = S S ; data R a = R a ( R a ) ; data M a = N | J a ; data E = E1 | E2 | E3 ; data L a = L a | K ( L a ) ; data X = X1 S | X2 Int ; "

// coverRows has the patterns of clauses, with a bar ahead of those that are open.
func coverRows(t *testing.T, text string) (list []impl.Node, rows [][]impl.Node, open []bool) {
	t.Helper()
	var clauses []string
	for _, row := range strings.Split(text, " ; ") {
		bare, isOpen := strings.CutPrefix(strings.TrimSpace(row), "| ")
		open = append(open, isOpen)
		clauses = append(clauses, "f "+bare+" = 1")
	}
	list = []impl.Node{parsed(t, "module M where { "+coverDatas+"}")}
	decls := impl.Resolve([]impl.Node{parsed(t, "module M where { "+coverDatas+strings.Join(clauses, " ; ")+" }")}).Decls
	for _, d := range decls {
		if d.Kind == impl.DClause {
			rows = append(rows, d.Kids[:len(d.Kids)-1])
		}
	}
	if len(rows) != len(clauses) {
		t.Fatalf("%s does not resolve", text)
	}
	return list, rows, open
}

// checkCovers has rows of clauses with what is to be answered.
func checkCovers(t *testing.T, rows [][2]string) {
	t.Helper()
	for _, row := range rows {
		list, patterns, open := coverRows(t, row[0])
		if got := coverText(checkCover(t, list, patterns, open)); got != row[1] {
			t.Errorf("%s\nis %s, not %s", row[0], got, row[1])
		}
	}
}
