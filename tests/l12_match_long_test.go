package tests

import (
	"fmt"
	"slices"
	"strconv"
	"strings"
	"testing"

	"loop.example/g00017/impl"
)

func TestCoverOfLongStrings(t *testing.T) {
	long := strings.Repeat("ab", 29000)
	var ends, heads [][]impl.Node
	for i := range 59 {
		ends = append(ends, []impl.Node{tree(impl.PStr, long+strconv.Itoa(i/2))})
		heads = append(heads, []impl.Node{tree(impl.PStr, long[:len(long)-i/2])})
	}
	wild := tree(impl.PWild, "")
	deep := wild
	for range 90 {
		deep = tree(impl.PCon, ":", wild, tree(impl.PCon, ":", tree(impl.PChar, "b"), deep))
	}
	odd := slices.Clone(deep.Kids)
	odd[0] = tree(impl.PNum, "1")
	for _, row := range []struct {
		rows             [][]impl.Node
		code             int64
		isAll            bool
		redundant, first int
	}{
		{ends, 0, false, 29, 1},
		{heads, 0, false, 29, 1},
		{append(slices.Clone(ends), []impl.Node{wild}), 0, true, 29, 1},
		{append(alone(deep), ends[1:]...), 0, false, 58, 1},
		{append(alone(tree(impl.PStr, "")), heads...), 0, false, 29, 2},
		{append(alone(tree(impl.PCon, ":", odd...)), heads...), 1, false, 0, 0},
		{slices.Repeat(ends[:1], 60), 0, false, 59, 1},
	} {
		r := impl.Cover(nil, row.rows, nil)
		if r.Code != row.code || r.All != row.isAll || len(r.Redundant) != row.redundant || row.redundant > 0 && r.Redundant[0] != int64(row.first) {
			t.Errorf("is %v", r)
		}
	}
	// Each is as long as the one ahead and one more.
	var rising [][]impl.Node
	for i := range 60 {
		rising = append(rising, []impl.Node{tree(impl.PStr, strings.Repeat("a", 900*i))})
	}
	if r := impl.Cover(nil, rising, nil); r.Code != 0 || r.All || r.Redundant != nil {
		t.Errorf("is %v", r)
	}
}

func TestCoverOfManyColumns(t *testing.T) {
	const columns = 20000
	var rows [][]impl.Node
	for i := range 60 {
		var row []impl.Node
		for k := range columns {
			switch {
			case k%3 == 0:
				row = append(row, tree(impl.PWild, ""))
			case k%3 == 1:
				row = append(row, tree(impl.PNum, strconv.Itoa(i%50+k%2)))
			default:
				row = append(row, tree(impl.PTuple, "", tree(impl.PVar, "x"), tree(impl.PStr, "a")))
			}
		}
		rows = append(rows, row)
	}
	// One more boolean in each of the last 13 columns; they alone have two ways.
	for i, row := range rows {
		for k := range 13 {
			rows[i] = append(row, boolean(i>>k))
			row = rows[i]
		}
	}
	if r := impl.Cover(nil, rows, nil); r.Code != 0 || r.All || r.Redundant != nil {
		t.Errorf("is %v", r)
	}
	rows[59] = slices.Repeat([]impl.Node{tree(impl.PWild, "")}, columns+13)
	rows[58] = rows[3]
	if r := impl.Cover(nil, rows, nil); r.Code != 0 || !r.All || !slices.Equal(r.Redundant, []int64{58}) {
		t.Errorf("is %v", r)
	}
	rows[0] = rows[0][1:]
	if r := impl.Cover(nil, rows, nil); r.Code != 1 {
		t.Errorf("is %v", r)
	}
}

// There are as many rows, ways and nodes as may be at once.
func TestCoverOfLargeRows(t *testing.T) {
	wild := tree(impl.PWild, "")
	elements := func(i int) impl.Node {
		own := tree(impl.PList, "")
		for k := range 199 {
			own.Kids = append(own.Kids, tree(impl.PTuple, "", wild, wild))
			if k == 100+i {
				own.Kids[k] = numberPair(i)
			}
		}
		return own
	}
	var rows [][]impl.Node
	for i := range 60 {
		row := []impl.Node{}
		for k := range 13 {
			switch {
			case i == k:
				row = append(row, boolean(0))
			case i >= 13 && i < 26 && k == i-13:
				row = append(row, boolean(1))
			default:
				row = append(row, wild)
			}
		}
		rows = append(rows, append(row, tree(impl.PTuple, "", wild, tree(impl.PLazy, "", wild))))
		if i >= 26 {
			rows[i] = slices.Clone(rows[i])
			rows[i][13] = tree(impl.PTuple, "", tree(impl.PCon, ":", wild, wild), numberPair(i))
		}
	}
	r := impl.Cover(nil, rows, nil)
	if r.Code != 0 || !r.All || len(r.Redundant) == 0 {
		t.Errorf("is %v", r)
	}
	var large [][]impl.Node
	for i := range 60 {
		large = append(large, []impl.Node{elements(min(i, 98)), elements(min(i/2, 98))})
	}
	if r := impl.Cover(nil, large, nil); r.Code != 1 {
		t.Errorf("is %v", r)
	}
	for i := range large {
		large[i] = []impl.Node{tree(impl.PList, "", elements(i).Kids[90:180]...), boolean(i)}
	}
	if r := impl.Cover(nil, large, nil); r.Code != 0 || r.All || r.Redundant != nil {
		t.Errorf("is %v", r)
	}
}

func numberPair(i int) impl.Node {
	return tree(impl.PTuple, "", tree(impl.PNum, strconv.Itoa(i)), tree(impl.PNum, strconv.Itoa(-1-i)))
}

func TestWarningsOfLargeModules(t *testing.T) {
	var things []string
	for i := range 700 {
		things = append(things, fmt.Sprintf("f%d True _ = case %d of { %d -> g } where { g [ ] = 1 }", i, i, i))
	}
	list := []impl.Node{parsed(t, "module M where { "+strings.Join(things, " ; ")+" }")}
	got := impl.Warnings(list)
	if len(got) != 2100 || got[2099] != (impl.Warning{Name: "M.f699", Kind: 1}) {
		t.Errorf("there are %d", len(got))
	}
	deep := "1"
	for range 60 {
		deep = "( case A of { A -> " + deep + " ; A -> 2 } )"
	}
	checkWarned(t, [][2]string{{"f = " + deep, strings.TrimSpace(strings.Repeat("M.f! M.f.2 ", 60))}})
	got = impl.Warnings([]impl.Node{parsed(t, "module M where { infixl 5 + ; data D = A | B ; x + y = x ; f = A"+strings.Repeat(" + ( case A of { B -> 1 } )", 1300)+" }")})
	if len(got) != 1300 {
		t.Errorf("there are %d", len(got))
	}
	var modules []impl.Node
	for i := range 200 {
		modules = append(modules, parsed(t, fmt.Sprintf("module M%d where { data D = A | B ; f A = 1 ; g A = 2 ; g _ = 3 ; g B = 4 }", i)))
	}
	if got := impl.Warnings(modules); len(got) != 400 || got[399] != (impl.Warning{Name: "M199.g", Kind: 2, Row: 3}) {
		t.Errorf("there are %d", len(got))
	}
}
