package tests

import (
	"fmt"
	"slices"
	"strings"
	"testing"

	"loop.example/g00017/impl"
)

// D has ten constructors, W and V have fields in which there are ten thousand ways; of W one more, of V two more, if all constructors stand there.
const waysDatas = "module M where { data D = D0 | D1 | D2 | D3 | D4 | D5 | D6 | D7 | D8 | D9 ; data W = W D D D D | W1 ; data V = V D D D D | V1 | V2 ; data U a = U a ; data Y = Y Bool | Z Bool Bool }"

func digit(i int) impl.Node { return tree(impl.PCon, fmt.Sprintf("M.D%d", i%10)) }

func boolean(i int) impl.Node { return tree(impl.PCon, []string{"True", "False"}[i%2]) }

// tens has ten rows of so many columns; in each all of D stand.
func tens(columns int) [][]impl.Node {
	var rows [][]impl.Node
	for i := range 10 {
		var row []impl.Node
		for k := range columns {
			row = append(row, digit(i+3*k))
		}
		rows = append(rows, row)
	}
	return rows
}

// heldBy has rows of a constructor of what stands in rows, behind them the others.
func heldBy(name string, rows [][]impl.Node, others ...string) [][]impl.Node {
	var made [][]impl.Node
	for _, row := range rows {
		made = append(made, []impl.Node{tree(impl.PCon, name, row...)})
	}
	for _, other := range others {
		made = append(made, []impl.Node{tree(impl.PCon, other)})
	}
	return made
}

// beside puts columns beside rows, by the number of the row.
func beside(rows [][]impl.Node, columns ...func(int) impl.Node) [][]impl.Node {
	var made [][]impl.Node
	for i, row := range rows {
		row = slices.Clone(row)
		for _, column := range columns {
			row = append(row, column(i))
		}
		made = append(made, row)
	}
	return made
}

func digits(i int) impl.Node { return tree(impl.PNum, fmt.Sprint(i)) }

func letters(i int) impl.Node { return tree(impl.PChar, string(rune('!'+i))) }

// lengths has a string of so many letters.
func lengths(i int) impl.Node { return tree(impl.PStr, strings.Repeat("a", i)) }

// listed has a list of so many elements of which nothing is told.
func listed(i int) impl.Node {
	return tree(impl.PList, "", slices.Repeat([]impl.Node{tree(impl.PWild, "")}, i)...)
}

func blank(count int) [][]impl.Node { return make([][]impl.Node, count) }

func TestWaysOfCover(t *testing.T) {
	list := modulesOf(t, waysDatas)
	wrap := func(i int) impl.Node { return tree(impl.PCon, "M.U", tree(impl.PCon, "M.U", boolean(i))) }
	either := func(i int) impl.Node {
		return []impl.Node{tree(impl.PCon, "M.Y", boolean(i)), tree(impl.PCon, "M.Z", boolean(i), boolean(i/2))}[i/4%2]
	}
	same := func(i int) impl.Node { return boolean(0) }
	for name, row := range map[string]struct {
		rows [][]impl.Node
		ways int
	}{
		"four columns of ten":                          {tens(4), 10000},
		"five columns of ten":                          {tens(5), 100000},
		"four columns of ten, one of two":              {beside(tens(4), boolean), 20000},
		"four columns of ten, one of one":              {beside(tens(4), same), 10000},
		"four columns of ten, numbers, chars":          {beside(tens(4), digits, letters), 10000},
		"fields of the first of two":                   {heldBy("M.W", tens(4)), 10000},
		"fields of the first, and the second":          {heldBy("M.W", tens(4), "M.W1"), 10001},
		"fields of the first of three":                 {heldBy("M.V", tens(4)), 10000},
		"fields of the first, and another":             {heldBy("M.V", tens(4), "M.V1"), 10000},
		"fields of the first, and another, one of two": {beside(heldBy("M.V", tens(4), "M.V1"), boolean), 20000},
		"fields of the second of three, one of two":    {beside(slices.Concat(heldBy("M.V", nil, "M.V2"), heldBy("M.V", tens(4))), boolean), 20000},
		"fields of the first, and all others":          {heldBy("M.V", tens(4), "M.V1", "M.V2"), 10002},
		"nine of ten":                                  {tens(4)[:9], 1},
		"nine of ten in a field":                       {heldBy("M.W", tens(4)[:9], "M.W1"), 2},
		"nine of ten in two fields":                    {heldBy("M.V", beside(tens(2), func(i int) impl.Node { return digit(min(i, 8)) }, func(i int) impl.Node { return digit(i % 9) }), "M.V1", "M.V2"), 102},
		"13 columns of two":                            {beside(blank(2), slices.Repeat([]func(int) impl.Node{boolean}, 13)...), 8192},
		"14 columns of two":                            {beside(blank(2), slices.Repeat([]func(int) impl.Node{boolean}, 14)...), 16384},
		"70 columns of two":                            {beside(blank(2), slices.Repeat([]func(int) impl.Node{boolean}, 70)...), 1000000},
		"13 columns of two in one of one":              {beside(blank(2), slices.Repeat([]func(int) impl.Node{wrap}, 13)...), 8192},
		"14 columns of two in one of one":              {beside(blank(2), slices.Repeat([]func(int) impl.Node{wrap}, 14)...), 16384},
		"sums of products":                             {beside(blank(8), either, either, either, either, either), 7776},
		"sums of products, one more":                   {beside(blank(8), either, either, either, either, either, either), 46656},
		"strings of 50 lengths twice":                  {beside(blank(50), lengths, lengths, boolean, boolean), 10000},
		"strings of 51 lengths twice":                  {beside(blank(51), lengths, lengths, boolean, boolean), 10404},
		"strings and lists of 50 lengths":              {beside(blank(50), lengths, listed, boolean, boolean), 10000},
		"strings of lengths from 1 on":                 {beside(blank(50), func(i int) impl.Node { return lengths(i + 1) }, listed, boolean, boolean), 10000},
		"strings of lengths, none alone":               {beside(blank(51), func(i int) impl.Node { return lengths(max(i, 1)) }, listed, boolean), 5100},
		"60 numbers, chars, strings":                   {beside(blank(60), digits, letters, func(i int) impl.Node { return tree(impl.PStr, fmt.Sprintf("%02d", i)) }), 1},
		"60 lists of numbers":                          {beside(blank(60), func(i int) impl.Node { return tree(impl.PList, "", digits(i), digits(i/2), digits(i/3)) }), 1},
		"lists of one and of two booleans":             {beside(blank(6), func(i int) impl.Node { return tree(impl.PList, "", slices.Repeat([]impl.Node{boolean(i)}, i%3)...) }), 7},
	} {
		s := slowMatcher{impl.TableOf(list).Tables}
		ways := 1
		for at := range row.rows[0] {
			var patterns []impl.Node
			for _, one := range row.rows {
				patterns = append(patterns, one[at])
			}
			ways = min(ways*s.ways(patterns), 1000000)
		}
		if ways != row.ways {
			t.Errorf("%s: there are %d by the second reading", name, ways)
		}
		want := int64(0)
		if row.ways > 10000 {
			want = 1
		}
		if got := impl.Cover(list, row.rows, nil); got.Code != want {
			t.Errorf("%s: %v", name, got)
		}
		if got := impl.Cover(list, slices.Concat(row.rows, row.rows)[:min(60, 2*len(row.rows))], nil); got.Code != want || want == 0 && len(got.Redundant) < min(60, 2*len(row.rows))-len(row.rows) {
			t.Errorf("%s, twice: %v", name, got)
		}
	}
}

// With as many ways as may be each of them counts.
func TestCoverOfAsManyWaysAsMayBe(t *testing.T) {
	list := modulesOf(t, waysDatas)
	wild := tree(impl.PWild, "")
	rows := tens(4)
	var rest [][]impl.Node
	for i := range 10 {
		rest = append(rest, []impl.Node{digit(i), wild, wild, wild})
	}
	for _, row := range []struct {
		rows [][]impl.Node
		want string
	}{
		{rows, "false"},
		{slices.Concat(rows, rest), "true"},
		{slices.Concat(rows, rest[:9]), "false"},
		{slices.Concat(rest, rows), "true [10 11 12 13 14 15 16 17 18 19]"},
		{slices.Concat(rows, rest[1:], [][]impl.Node{{wild, wild, wild, digit(0)}, {digit(0), wild, wild, wild}, {wild, wild, wild, wild}}), "true [21]"},
	} {
		if got := coverText(checkCover(t, list, row.rows, nil)); got != row.want {
			t.Errorf("%s\nis %s, not %s", rowsText(row.rows), got, row.want)
		}
	}
	// Each row has one of 13 booleans, so that only a value with none of them is left; the last one takes that.
	var hard [][]impl.Node
	for i := range 13 {
		row := slices.Repeat([]impl.Node{wild}, 13)
		row[i] = boolean(0)
		hard = append(hard, row)
	}
	none := slices.Repeat([]impl.Node{boolean(1)}, 13)
	all := slices.Repeat([]impl.Node{wild}, 13)
	for _, row := range []struct {
		rows [][]impl.Node
		want string
	}{{hard, "false"}, {slices.Concat(hard, [][]impl.Node{none}), "true"}, {slices.Concat(hard, [][]impl.Node{none, all}), "true [14]"}, {slices.Concat(hard, [][]impl.Node{all, none}), "true [14]"}} {
		if got := coverText(checkCover(t, nil, row.rows, nil)); got != row.want {
			t.Errorf("%s\nis %s, not %s", rowsText(row.rows), got, row.want)
		}
	}
}
