package tests

import (
	"testing"

	"loop.example/g00017/impl"
)

func TestCoverOfWhatMatchesAll(t *testing.T) {
	checkCovers(t, [][2]string{
		{"x", "true"},
		{"_", "true"},
		{"x ; y", "true [1]"},
		{"_ ; x ; _", "true [1 2]"},
		{"( x @ _ )", "true"},
		{"( x @ y ) ; z", "true [1]"},
		{"( ~ x ) ; ( ! _ ) ; y", "true [1 2]"},
		{"( ~ True ) ; False", "true"},
		{"( ~ True ) ; True ; _", "true [1]"},
		{"( ! True ) ; ( ~ False ) ; _", "true [2]"},
		{"( x @ ( ~ ( ! True ) ) )", "false"},
		{"( x @ True ) ; ( y @ ( z @ False ) )", "true"},
		{"( ~ [ ] ) ; ( x @ ( ! [ _ ] ) ) ; ( ~ ( _ : ( ! ( _ : _ ) ) ) )", "true"},
		{"_ _ _", "true"},
		{"x True ; y z", "true"},
	})
}

func TestCoverOfDatas(t *testing.T) {
	checkCovers(t, [][2]string{
		{"True", "false"},
		{"True ; False", "true"},
		{"False ; True ; _", "true [2]"},
		{"True ; True ; False ; False", "true [1 3]"},
		{"E1 ; E2", "false"},
		{"E1 ; E3 ; E2", "true"},
		{"E2 ; _ ; E1", "true [2]"},
		{"A ; ( B _ ) ; ( C _ _ )", "true"},
		{"A ; ( B 1 ) ; ( C _ _ )", "false"},
		{"A ; ( B 1 ) ; ( C _ _ ) ; ( B x )", "true"},
		{"A ; ( B _ ) ; ( C A x ) ; ( C x A )", "false"},
		{"A ; ( B _ ) ; ( C A x ) ; ( C x A ) ; ( C ( B _ ) ( B _ ) ) ; ( C ( C _ _ ) _ ) ; ( C _ ( C _ _ ) )", "true"},
		{"A ; ( B _ ) ; ( C A x ) ; ( C x A ) ; ( C A A ) ; ( C _ _ )", "true [4]"},
		{"( C ( C A _ ) _ ) ; ( C ( C _ _ ) A ) ; ( C ( C A _ ) A ) ; ( C ( C ( B 1 ) _ ) A ) ; ( C ( C ( B 1 ) _ ) ( B 1 ) )", "false [2 3]"},
		{"( Q True ) ; ( Q False )", "true"},
		{"( Q _ ) ; ( Q True )", "true [1]"},
		{"( Q x )", "true"},
		{"( Q ( Q ( Q True ) ) )", "false"},
		{"( P True False ) ; ( P False True ) ; ( P True True ) ; ( P False False )", "true"},
		{"( P True False ) ; ( P False True ) ; ( P True True )", "false"},
		{"( P _ True ) ; ( P False _ ) ; ( P True False )", "true"},
		{"N ; ( J N ) ; ( J ( J _ ) )", "true"},
		{"N ; ( J N ) ; ( J ( J N ) )", "false"},
		{"( L True ) ; ( K ( L _ ) ) ; ( K ( K x ) ) ; ( L False )", "true"},
		{"( L True ) ; ( K ( L _ ) ) ; ( K ( K ( L _ ) ) ) ; ( L False )", "false"},
	})
}

// What has no value with an end still has values, which go on without one; so has a field of such a type.
func TestCoverOfDatasWithoutAnEnd(t *testing.T) {
	checkCovers(t, [][2]string{
		{"( S x )", "true"},
		{"( S ( S ( S _ ) ) )", "true"},
		{"( S _ ) ; ( S ( S _ ) ) ; _", "true [1 2]"},
		{"| ( S _ )", "false"},
		{"| ( S _ ) ; ( S ( S x ) )", "true"},
		{"( R True _ ) ; ( R False ( R True _ ) )", "false"},
		{"( R True _ ) ; ( R False ( R True _ ) ) ; ( R _ ( R False _ ) )", "true"},
		{"( X2 _ )", "false"},
		{"( X2 _ ) ; ( X1 _ )", "true"},
		{"( X2 _ ) ; ( X1 ( S _ ) ) ; ( X1 _ )", "true [2]"},
	})
}

func TestCoverOfListsAndTuples(t *testing.T) {
	checkCovers(t, [][2]string{
		{"[ ]", "false"},
		{"[ ] ; ( _ : _ )", "true"},
		{"[ ] ; [ x ] ; ( a : b : c )", "true"},
		{"[ ] ; [ x ] ; [ x , y ]", "false"},
		{"[ _ , _ ] ; ( _ : _ : [ ] ) ; ( _ : _ )", "false [1]"},
		{"( _ : _ ) ; [ _ ] ; [ ]", "true [1]"},
		{"[ True ] ; [ False ] ; [ _ ]", "false [2]"},
		{"[ True , _ ] ; [ _ , True ] ; [ False , False ] ; [ _ , _ ]", "false [3]"},
		{"( True : _ ) ; ( False : _ ) ; [ ]", "true"},
		{"[ [ ] ] ; [ [ _ ] ] ; [ ( _ : _ : _ ) ] ; [ ] ; ( _ : _ : _ )", "true"},
		{"( )", "true"},
		{"( ) ; ( )", "true [1]"},
		{"( x , y )", "true"},
		{"( True , _ ) ; ( _ , True ) ; ( False , False )", "true"},
		{"( True , _ ) ; ( _ , True )", "false"},
		{"( _ , _ , 1 ) ; ( _ , _ , _ )", "true"},
		{"( _ , _ , _ , _ , _ , _ , True ) ; ( _ , _ , _ , _ , _ , _ , False )", "true"},
		{"( ( True , x ) , _ ) ; ( ( _ , True ) , ( ) ) ; ( ( False , False ) , _ )", "true"},
		{"( x , ( ) , [ ] ) ; ( x , ( ) , ( _ : _ ) )", "true"},
	})
}

func TestCoverOfNumbers(t *testing.T) {
	checkCovers(t, [][2]string{
		{"1 ; 2", "false"},
		{"1 ; 2 ; 1", "false [2]"},
		{"0 ; 1 ; _ ; 2", "true [3]"},
		{"( - 1 ) ; 1 ; ( - 1 )", "false [2]"},
		{"123456789012345678901234567890 ; 123456789012345678901234567891 ; x ; 123456789012345678901234567890", "true [3]"},
		{"1 True ; 2 False ; _ _", "true"},
		{"1 True ; 1 False ; _ True ; 1 _ ; 2 True ; 2 False", "false [3 4]"},
		{"( B 1 ) ; ( B 2 ) ; ( B _ ) ; ( B 3 ) ; A", "false [3]"},
	})
}

func TestCoverOfCharsAndStrings(t *testing.T) {
	checkCovers(t, [][2]string{
		{"'a' ; 'b'", "false"},
		{"'a' ; 'b' ; 'a' ; x", "true [2]"},
		{"'\\n' ; '\\'' ; '\\n'", "false [2]"},
		{"\"\" ; ( _ : _ )", "true"},
		{"\"\" ; [ ]", "false [1]"},
		{"[ ] ; \"\"", "false [1]"},
		{"\"a\" ; [ 'a' ]", "false [1]"},
		{"[ 'a' , 'b' ] ; \"ab\" ; ( 'a' : \"b\" ) ; ( 'a' : 'b' : [ ] )", "false [1 2 3]"},
		{"\"ab\" ; \"ac\" ; \"a\" ; \"abc\" ; \"ab\"", "false [4]"},
		{"\"ab\" ; ( 'a' : _ ) ; \"ac\" ; ( x : _ ) ; \"b\" ; \"\"", "true [2 4]"},
		{"( 'a' : _ ) ; \"ab\"", "false [1]"},
		{"\"ab\" ; ( 'a' : _ )", "false"},
		{"( _ : 'b' : _ ) ; \"ab\" ; \"abc\" ; \"acb\" ; \"b\"", "false [1 2]"},
		{"[ x , 'b' ] ; \"ab\" ; \"abb\"", "false [1]"},
		{"\"aaaa\" ; \"aaab\" ; \"aa\" ; ( 'a' : 'a' : 'a' : _ : [ ] ) ; \"aaac\"", "false [4]"},
		{"( \"ab\" , True ) ; ( \"ab\" , False ) ; ( \"ab\" , _ ) ; ( 'a' : _ , True ) ; ( \"ab\" , x )", "false [2 4]"},
		{"\"x\" ; \"x\" ; \"\" ; \"\"", "false [1 3]"},
	})
}

func TestCoverOfSeveralRows(t *testing.T) {
	checkCovers(t, [][2]string{
		{"True _ ; _ True ; False False ; x y", "true [3]"},
		{"True _ ; False _ ; _ True", "true [2]"},
		{"True True ; False False ; _ _ ; True False", "true [3]"},
		{"True _ True ; False _ True ; _ True _ ; _ False True ; _ _ _ ; False False False", "true [3 5]"},
		{"_ E1 ; _ E2 ; True _ ; True E3 ; False E3 ; _ _", "true [3 5]"},
		{"A [ ] ; _ [ ] ; A _ ; _ [ _ ] ; ( B _ ) ( _ : _ : _ ) ; ( C _ _ ) _ ; A _", "true [6]"},
	})
}

func TestCoverOfOpenRows(t *testing.T) {
	checkCovers(t, [][2]string{
		{"| x", "false"},
		{"| x ; y", "true"},
		{"| x ; | y ; z", "true"},
		{"x ; | y ; z", "true [1 2]"},
		{"| True ; False", "false"},
		{"| True ; False ; True", "true"},
		{"True ; | True ; False", "true [1]"},
		{"| True ; | True ; True ; | True ; True ; False", "true [3 4]"},
		{"True ; | False ; False ; _", "true [3]"},
		{"| \"ab\" ; \"ab\" ; | \"ab\" ; _", "true [2]"},
		{"| True _ ; _ True ; | True True ; True False ; False False ; | _ _", "true [2 5]"},
	})
	list, rows, _ := coverRows(t, "x ; y ; z")
	for _, row := range []struct {
		open []bool
		want string
	}{{nil, "true [1 2]"}, {[]bool{}, "true [1 2]"}, {[]bool{true}, "true [2]"}, {[]bool{true, true}, "true"}, {[]bool{false, true}, "true [1 2]"}, {[]bool{true, true, true}, "false"}, {[]bool{true, true, true, false, false}, "false"}, {[]bool{false, false, false, true, true}, "true [1 2]"}, {[]bool{true, false, true, true}, "true [2]"}} {
		if got := coverText(checkCover(t, list, rows, row.open)); got != row.want {
			t.Errorf("%v is %s, not %s", row.open, got, row.want)
		}
	}
}

func TestCoverOfRowsWithoutPatterns(t *testing.T) {
	for _, row := range []struct {
		count int
		open  []bool
		want  string
	}{{1, nil, "true"}, {1, []bool{true}, "false"}, {3, nil, "true [1 2]"}, {3, []bool{true}, "true [2]"}, {3, []bool{true, true}, "true"}, {3, []bool{true, true, true}, "false"}, {3, []bool{false, true, true}, "true [1 2]"}} {
		if got := coverText(checkCover(t, nil, make([][]impl.Node, row.count), row.open)); got != row.want {
			t.Errorf("%d, %v is %s, not %s", row.count, row.open, got, row.want)
		}
		empty := make([][]impl.Node, row.count)
		for i := range empty {
			empty[i] = []impl.Node{}
		}
		if got := coverText(impl.Cover(nil, empty, row.open)); got != row.want {
			t.Errorf("%d, %v is %s, not %s", row.count, row.open, got, row.want)
		}
	}
}

// Constructors of what is built in may be written by their names, as may those of tuples and the empty list.
func TestCoverOfConstructorsByName(t *testing.T) {
	wild := tree(impl.PWild, "")
	unit, pair, empty := tree(impl.PCon, "()"), tree(impl.PCon, "(,)", wild, wild), tree(impl.PCon, "[]")
	for _, row := range []struct {
		rows [][]impl.Node
		want string
	}{
		{[][]impl.Node{{unit}, {tree(impl.PTuple, "")}}, "true [1]"},
		{[][]impl.Node{{tree(impl.PTuple, "", wild, wild)}, {pair}}, "true [1]"},
		{[][]impl.Node{{empty}, {tree(impl.PList, "")}, {tree(impl.PStr, "")}}, "false [1 2]"},
		{[][]impl.Node{{empty}, {tree(impl.PCon, ":", wild, wild)}}, "true"},
		{[][]impl.Node{{tree(impl.PCon, "(,,,,,,)", wild, wild, wild, wild, wild, wild, wild)}}, "true"},
		{[][]impl.Node{{unit}, {pair}}, "code 1 []"},
		{[][]impl.Node{{tree(impl.PCon, "(,)", wild)}}, "code 1 []"},
		{[][]impl.Node{{tree(impl.PCon, "(,,,,,,,)", wild, wild, wild, wild, wild, wild, wild, wild)}}, "code 1 []"},
		{[][]impl.Node{{tree(impl.PTuple, "", wild, wild, wild, wild, wild, wild, wild, wild)}}, "code 1 []"},
	} {
		if got := coverText(checkCover(t, nil, row.rows, nil)); got != row.want {
			t.Errorf("%s is %s, not %s", rowsText(row.rows), got, row.want)
		}
	}
}
