package tests

import (
	"slices"
	"strconv"
	"strings"
	"testing"

	"loop.example/g00017/impl"
)

// alone has rows of one pattern each.
func alone(patterns ...impl.Node) [][]impl.Node {
	var rows [][]impl.Node
	for _, p := range patterns {
		rows = append(rows, []impl.Node{p})
	}
	return rows
}

// coverCode holds an answer against the second reading; with a code all else is zero.
func coverCode(t *testing.T, list []impl.Node, rows [][]impl.Node) int64 {
	t.Helper()
	r := checkCover(t, list, rows, nil)
	if r.Code != 0 && (r.Code != 1 || r.All || r.Redundant != nil) {
		t.Errorf("%.500s is %v", rowsText(rows), r)
	}
	return r.Code
}

func TestCoverOfModulesThatAreAtOdds(t *testing.T) {
	count := 0
	for _, list := range tableLists(t) {
		want := int64(0)
		if impl.TableOf(list).Code != 0 {
			want = 1
			count++
		}
		if r := impl.Cover(list, alone(tree(impl.PWild, "")), nil); r.Code != want || r.All != (want == 0) {
			t.Errorf("%.500s is %v", kinded(tree(0, "", list...)), r)
		}
	}
	if count < 40 {
		t.Errorf("there are but %d", count)
	}
}

func TestCoverOfNoRowsAndOfMany(t *testing.T) {
	wild := tree(impl.PWild, "")
	for _, row := range []struct {
		rows [][]impl.Node
		want int64
	}{
		{nil, 1},
		{[][]impl.Node{}, 1},
		{slices.Repeat(alone(wild), 60), 0},
		{slices.Repeat(alone(wild), 61), 1},
		{slices.Repeat([][]impl.Node{nil}, 60), 0},
		{slices.Repeat([][]impl.Node{nil}, 61), 1},
		{slices.Repeat([][]impl.Node{nil}, 1000), 1},
		{[][]impl.Node{{wild}, {}}, 1},
		{[][]impl.Node{{}, {wild}}, 1},
		{[][]impl.Node{{wild, wild}, {wild, wild}, {wild}}, 1},
		{[][]impl.Node{{wild}, {wild, wild}, {wild}}, 1},
		{[][]impl.Node{{wild, wild}, {wild, wild}}, 0},
	} {
		if got := coverCode(t, nil, row.rows); got != row.want {
			t.Errorf("%d rows: %d", len(row.rows), got)
		}
	}
	var numbers [][]impl.Node
	for i := range 60 {
		numbers = append(numbers, []impl.Node{tree(impl.PNum, strconv.Itoa(i/2))})
	}
	if r := checkCover(t, nil, numbers, nil); r.Code != 0 || len(r.Redundant) != 30 || r.Redundant[29] != 59 {
		t.Errorf("is %v", r)
	}
}

// atEachPlace puts a pattern in each kind of place.
func atEachPlace(p impl.Node) []impl.Node {
	wild := tree(impl.PWild, "")
	return []impl.Node{p, tree(impl.PAs, "x", p), tree(impl.PLazy, "", p), tree(impl.PBang, "", p), tree(impl.PTuple, "", wild, p), tree(impl.PTuple, "", p, wild, wild), tree(impl.PList, "", p), tree(impl.PList, "", wild, wild, p), tree(impl.PCon, ":", p, wild), tree(impl.PCon, ":", wild, tree(impl.PCon, ":", tree(impl.PLazy, "", tree(impl.PTuple, "", p, p)), wild))}
}

func TestCoverOfWhatIsNoPattern(t *testing.T) {
	wild := tree(impl.PWild, "")
	list := []impl.Node{parsed(t, "module M where { "+coverDatas+"}")}
	bad := []impl.Node{{}, tree(-1, ""), tree(29, ""), tree(42, ""), tree(impl.NVar, "x"), tree(impl.NCon, "True"), tree(impl.NNum, "1"), tree(impl.TVar, "a"), tree(impl.NTuple, ""), tree(impl.NList, ""), tree(impl.DItem, "x"), tree(impl.PVar, "x", wild), tree(impl.PWild, "", wild), tree(impl.PNum, "1", wild), tree(impl.PChar, "a", wild), tree(impl.PStr, "a", wild), tree(impl.PTuple, "", wild), tree(impl.PAs, "x"), tree(impl.PAs, "x", wild, wild), tree(impl.PLazy, ""), tree(impl.PLazy, "", wild, wild), tree(impl.PBang, ""), tree(impl.PBang, "", wild, wild), tree(impl.PList, "", tree(impl.NVar, "x")), tree(impl.POps, "", wild, tree(impl.PCon, ":"), wild), tree(impl.POps, "", wild, tree(impl.PCon, "True"), wild), tree(impl.POps, "", wild, tree(impl.PCon, "[]"), wild, tree(impl.PCon, "M.A"), wild), tree(impl.POps, "")}
	for _, name := range []string{"", "-", "--1", "01", "00", "-0", "-01", "+1", "1a", "a", " 1", "1 ", "- 1", "1.0", strings.Repeat("1", 301)} {
		bad = append(bad, tree(impl.PNum, name))
	}
	for _, name := range []string{"", "ab", "\t", "\r", "\x00", "\x7f", "\x80", "\xff", "ä"} {
		bad = append(bad, tree(impl.PChar, name))
	}
	for _, name := range []string{"\t", "a\x00", "\x7fa", "ä", "a\xff"} {
		bad = append(bad, tree(impl.PStr, name))
	}
	for _, name := range []string{"", "A", "T", "M.T", "M.a", "N.A", "Nope", "Int", "Char", "->", "::", "(,,,,,,,)", "M."} {
		bad = append(bad, tree(impl.PCon, name))
	}
	bad = append(bad, tree(impl.PCon, "M.A", wild), tree(impl.PCon, "M.B"), tree(impl.PCon, "M.B", wild, wild), tree(impl.PCon, "M.C", wild), tree(impl.PCon, "M.C"), tree(impl.PCon, "M.C", wild, wild, wild), tree(impl.PCon, "True", wild), tree(impl.PCon, "[]", wild), tree(impl.PCon, ":"), tree(impl.PCon, ":", wild), tree(impl.PCon, ":", wild, wild, wild), tree(impl.PCon, "()", wild), tree(impl.PCon, "(,)"), tree(impl.PCon, "(,)", wild))
	for _, p := range bad {
		for _, whole := range atEachPlace(p) {
			for _, rows := range [][][]impl.Node{alone(whole), alone(wild, whole), alone(whole, wild), {{wild, whole}, {wild, wild}}} {
				if coverCode(t, list, rows) != 1 {
					t.Errorf("%s is one", rowsText(rows))
				}
			}
		}
	}
}

func TestCoverOfPatternsWithAnyNames(t *testing.T) {
	wild := tree(impl.PWild, "")
	list := modulesOf(t, "module M where { "+coverDatas+"} module N where { data Int = Int | Char }")
	var good []impl.Node
	for _, name := range []string{"", "X", "a b", "M.x", "+", "#1.1", "\xff", "let", "x"} {
		good = append(good, tree(impl.PVar, name), tree(impl.PAs, name, wild), tree(impl.PWild, name), tree(impl.PLazy, name, wild), tree(impl.PBang, name, tree(impl.PVar, name)), tree(impl.PTuple, name), tree(impl.PTuple, name, wild, wild), tree(impl.PList, name, wild))
	}
	for _, name := range []string{"0", "1", "-1", "10", "-10", strings.Repeat("9", 300), "-" + strings.Repeat("9", 300)} {
		good = append(good, tree(impl.PNum, name))
	}
	for _, name := range []string{" ", "\n", "'", "\"", "\\", "~", "a"} {
		good = append(good, tree(impl.PChar, name), tree(impl.PStr, name), tree(impl.PStr, "a"+name+"b"))
	}
	good = append(good, tree(impl.PStr, ""), tree(impl.PCon, "M.A"), tree(impl.PCon, "M.C", wild, wild), tree(impl.PCon, "N.Int"), tree(impl.PCon, "N.Char"), tree(impl.PCon, "()"))
	for _, p := range good {
		for _, whole := range atEachPlace(p) {
			if coverCode(t, list, alone(whole, wild)) != 0 || coverCode(t, list, alone(whole)) != 0 {
				t.Errorf("%s is none", kinded(whole))
			}
		}
	}
}

func TestCoverOfLargePatterns(t *testing.T) {
	wild := tree(impl.PWild, "")
	wide := func(nodes int) impl.Node { return tree(impl.PList, "", slices.Repeat([]impl.Node{wild}, nodes-1)...) }
	wound := func(levels int, p impl.Node) impl.Node {
		for range levels - 1 {
			p = tree(impl.PLazy, "", p)
		}
		return p
	}
	inLists := func(levels int) impl.Node {
		p := tree(impl.PList, "")
		for range levels - 1 {
			p = tree(impl.PList, "", p)
		}
		return p
	}
	large := func(p impl.Node) impl.Node {
		return tree(impl.PTuple, "", wide(100), wide(199), tree(impl.PList, "", p))
	}
	for _, row := range []struct {
		p    impl.Node
		want int64
	}{{wide(400), 0}, {wide(401), 1}, {wide(20000), 1}, {wound(200, wild), 0}, {wound(201, wild), 1}, {wound(400, wild), 1}, {inLists(200), 0}, {inLists(201), 1}, {large(wide(99)), 0}, {large(wide(100)), 1}, {tree(impl.PStr, strings.Repeat("a", 1000)), 0}} {
		for _, rows := range [][][]impl.Node{alone(row.p), alone(wild, row.p), {{wild, row.p}}, {{row.p, row.p, row.p}}} {
			if got := impl.Cover(nil, rows, nil).Code; got != row.want || (slowMatcher{impl.Builtins()}).isOdd(rows) != (row.want == 1) {
				t.Errorf("%.200s is %d", rowsText(rows), got)
			}
		}
	}
}

// oneOfEach has a pattern of each type, in clauses.
var oneOfEach = []string{"True", "A", "( P 1 2 )", "( Q x )", "( S x )", "N", "E1", "1", "( - 1 )", "'a'", "\"a\"", "( )", "( x , y )", "( x , y , z )", "( x , y , z , u )", "( x , y , z , u , v )", "( x , y , z , u , v , w )", "( x , y , z , u , v , w , _ )"}

// alike has those of one type with others.
var alike = map[string]string{"True": "False", "A": "( C x A )", "( P 1 2 )": "( P 3 4 )", "( Q x )": "( Q 1 )", "( S x )": "( S _ )", "N": "( J 1 )", "E1": "E3", "1": "0", "( - 1 )": "1", "'a'": "'b'", "\"a\"": "[ ]", "( )": "( )", "( x , y )": "( 1 , 2 )"}

func TestCoverOfPatternsOfDifferentTypes(t *testing.T) {
	around := []string{"#", "( Q # )", "( J # )", "( C A # )", "[ # ]", "[ _ , # ]", "( _ : # : _ )", "( 1 , # )", "( z0 @ ( ~ ( Q # ) ) )", "( Q ( Q ( Q [ _ , _ , # ] ) ) )"}
	for i, one := range oneOfEach {
		for k, other := range oneOfEach {
			isNumber := (one == "1" || one == "( - 1 )") && (other == "1" || other == "( - 1 )")
			for n, form := range around {
				if n > 3 && (i+k+n)%5 > 0 {
					continue
				}
				a, b := strings.Replace(form, "#", one, 1), strings.Replace(form, "#", other, 1)
				want := int64(1)
				if i == k || isNumber {
					want = 0
				}
				texts := []string{a + " ; " + b, a + " ; _ ; " + b, a + " 1 ; " + b + " 2", "1 " + a + " ; | _ " + b}
				text := texts[(i+k+n)%4]
				list, rows, _ := coverRows(t, text)
				if got := coverCode(t, list, rows); got != want {
					t.Errorf("%s is %d", text, got)
				}
			}
		}
		if other, has := alike[one]; has {
			list, rows, _ := coverRows(t, one+" ; "+other)
			if coverCode(t, list, rows) != 0 {
				t.Errorf("%s against %s is none", one, other)
			}
		}
	}
}

func TestCoverOfPatternsInDifferentPlaces(t *testing.T) {
	for text, want := range map[string]int64{
		"True 1 ; 1 True":                               1,
		"True 1 ; False 2 ; _ 'a'":                      1,
		"( L True ) ; ( K ( L 1 ) )":                    0,
		"( L True ) ; ( K ( L 1 ) ) ; ( K ( L 'a' ) )":  1,
		"( B 1 ) ; ( C ( B 'a' ) A )":                   0,
		"( B 1 ) ; ( C ( B 'a' ) A ) ; ( C ( B 2 ) A )": 1,
		"( C ( B 'a' ) A ) ; ( C A ( B 2 ) )":           0,
		"[ 1 , 'a' ] ; [ 2 , 'b' , True ]":              0,
		"[ 1 , 'a' ] ; [ 2 , 3 ]":                       1,
		"[ 1 ] ; \"\"":                                  0,
		"[ 1 ] ; \"a\"":                                 1,
		"[ 1 , 2 ] ; ( x : \"a\" )":                     1,
		"\"abc\" ; [ 'a' , x , 'c' ] ; ( y : 'b' : z )": 0,
		"\"abc\" ; [ 'a' , x , 1 ]":                     1,
		"\"abc\" ; [ 'a' , x , 'c' , 1 ]":               0,
		"( J 1 ) ; N ; ( J 'a' )":                       1,
		"( X1 ( S _ ) ) ; ( X2 1 )":                     0,
		"( P 1 'a' ) ; ( P 2 'b' )":                     0,
		"( P 1 'a' ) ; ( P 'b' 2 )":                     1,
		"( P 1 _ ) ; ( P _ 'a' ) ; ( P x y )":           0,
		"( B True ) ; ( B False )":                      0,
		"A ; ( P 1 2 )":                                 1,
		"( R 1 ( R 'a' _ ) ) ; ( R 2 ( R 'b' _ ) )":     0,
		"( R 1 ( R 'a' _ ) ) ; ( R _ ( R 1 _ ) )":       1,
	} {
		list, rows, _ := coverRows(t, text)
		if got := coverCode(t, list, rows); got != want {
			t.Errorf("%s is %d", text, got)
		}
	}
}
