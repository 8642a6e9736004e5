package tests

import (
	"fmt"
	"math/rand/v2"
	"slices"
	"strconv"
	"strings"
	"testing"

	"loop.example/g00017/impl"
)

// warningsText has a warning as its name, with ! for what is left out, or the row.
func warningsText(list []impl.Warning) string {
	return strings.Join(textsOf(list, func(w impl.Warning) string {
		switch {
		case w.Kind == 1 && w.Row == 0:
			return w.Name + "!"
		case w.Kind == 2 && w.Row > 0:
			return w.Name + "." + strconv.FormatInt(w.Row, 10)
		}
		return fmt.Sprint(w)
	}), " ")
}

func checkWarnings(t *testing.T, list []impl.Node) string {
	t.Helper()
	got, want := warningsText(impl.Warnings(list)), warningsText(warningsSlowly(list))
	if got != want {
		t.Errorf("%.3000s\nis %s\nnot %s", strings.Join(textsOf(list, impl.Print), "\n"), got, want)
	}
	return got
}

// checkWarned has what is warned of in modules, of which a text without a name is one.
func checkWarned(t *testing.T, rows [][2]string) {
	t.Helper()
	for _, row := range rows {
		text := row[0]
		if !strings.HasPrefix(text, "module ") {
			text = "module M where { data D = A | B | C D ; " + text + " }"
		}
		list := modulesOf(t, text)
		if impl.TableOf(list).Code != 0 {
			t.Fatalf("%s has a code", row[0])
		}
		if got := checkWarnings(t, list); got != row[1] {
			t.Errorf("%s\nis %s, not %s", row[0], got, row[1])
		}
	}
}

func TestWarningsOfThings(t *testing.T) {
	checkWarned(t, [][2]string{
		{"f = 1", ""},
		{"f x = x", ""},
		{"f True = 1", "M.f!"},
		{"f True = 1 ; f False = 2", ""},
		{"f True = 1 ; f True = 2", "M.f! M.f.2"},
		{"f x = 1 ; f True = 2 ; f False = 3", "M.f.2 M.f.3"},
		{"f A x = 1 ; f _ True = 2 ; f B False = 3 ; f ( C _ ) _ = 4 ; f _ _ = 5", "M.f.5"},
		{"f A = 1 ; f ( C _ ) = 2", "M.f!"},
		{"f A = 1 ; g x = x ; h B = 1 ; k [ ] = 1", "M.f! M.h! M.k!"},
		{"A +++ x = 1 ; x +++ A = 2 ; x +++ y = 3 ; B +++ x = 4", "M.+++.4"},
		{"f 'a' = 1 ; f _ = 2 ; f 'b' = 3 ; g \"a\" = 1 ; g \"a\" = 2", "M.f.3 M.g! M.g.2"},
		{"f :: D -> Int ; f A = 1 ; g , h :: D -> Int ; g x = 1 ; h B = 1", "M.f! M.h!"},
		{"f = \\ A -> 1 ; g = [ x | C x <- [ A ] ]", ""},
		{"x = 1 ; x = 2", "M.x.2"},
		{"x | True = 1 ; x = 2", "M.x.2"},
		{"x | False = 1 ; x = 2", ""},
		{"x | False = 1", "M.x!"},
	})
}

func TestWarningsOfGuards(t *testing.T) {
	checkWarned(t, [][2]string{
		{"f x | x = 1", "M.f!"},
		{"f x | x = 1 | True = 2", ""},
		{"f x | True = 2 | x = 1", ""},
		{"f x | x = 1 | False = 2", "M.f!"},
		{"f x | x = 1 ; f y = 2", ""},
		{"f x | x = 1 ; f y | y = 2", "M.f!"},
		{"f x | x = 1 ; f y | y = 2 ; f z = 3 ; f u = 4", "M.f.4"},
		{"f True | True = 1 ; f True | f False = 2 ; f False = 3", "M.f.2"},
		{"f x | ( True ) = 1 ; f y = 2", "M.f.2"},
		{"f x | id True = 1 ; id x = x", "M.f!"},
		{"f x | if True then True else True = 1", "M.f!"},
		{"f x | [ ] = 1", "M.f!"},
		{"f x | \"True\" = 1", "M.f!"},
		{"f x | y = 1 where { y = True }", "M.f!"},
		{"f x | case x of { True -> True } = 1 | True = 2", "M.f!"},
		{"f x = case x of { y | y -> 1 ; True -> 2 ; False | True -> 3 ; False -> 4 }", "M.f.4"},
		{"f x = case x of { y | y -> 1 | True -> 2 ; _ -> 3 }", "M.f.2"},
		{"f x = case x of { y | y -> 1 }", "M.f!"},
	})
}

func TestWarningsOfWhatIsNested(t *testing.T) {
	checkWarned(t, [][2]string{
		{"f x = case x of { A -> 1 }", "M.f!"},
		{"f x = case x of { A -> 1 ; A -> 2 ; _ -> 3 ; B -> 4 }", "M.f.2 M.f.4"},
		{"f A = case 1 of { 1 -> y } where { y [ ] = 1 ; y [ ] = 2 }", "M.f! M.f! M.f! M.f.2"},
		{"f x = let { g A = 1 ; h y = case y of { B -> 1 ; _ -> 2 ; A -> 3 } ; k B = 1 ; k _ = 2 ; k A = 3 } in case g x of { 1 -> 2 }", "M.f! M.f.3 M.f.3 M.f!"},
		{"f x = g where { g = h where { h = k where { k A = 1 ; k A = 2 ; k B = 1 ; k ( C _ ) = 2 } } }", "M.f.2"},
		{"f x = \\ y -> case y of { A -> 1 }", "M.f!"},
		{"f x = [ case y of { A -> 1 } | y <- case x of { B -> [ ] ; B -> [ ] } , case y of { A -> True ; _ -> False ; _ -> True } ]", "M.f! M.f! M.f.2 M.f.3"},
		{"f x = if case x of { A -> True } then case x of { _ -> 1 ; _ -> 2 } else case x of { A -> 1 }", "M.f! M.f.2 M.f!"},
		{"f x = ( case x of { A -> 1 } , [ case x of { _ -> 1 ; A -> 2 } ] , g ( case x of { A -> 1 } ) ) ; g x = [ 1 .. case x of { 1 -> 2 } ]", "M.f! M.f.2 M.f! M.g!"},
		{"f x = case case x of { A -> A ; _ -> B ; _ -> A } of { A -> case x of { B -> 1 } }", "M.f! M.f.3 M.f!"},
		{"f x | case x of { A -> True } = case x of { B -> 1 } | g A = 2 where { g A = True ; g _ = True ; g B = False }", "M.f! M.f! M.f! M.f.3"},
		{"f x = case x of { y | case y of { A -> True } -> case y of { B -> 1 } where { z A = 1 } }", "M.f! M.f! M.f! M.f!"},
		{"f A = g where { g A = 1 } ; f B = g where { g _ = 1 ; g A = 2 } ; f _ = case 1 of { 1 -> 2 }", "M.f! M.f.2 M.f!"},
		{"f x = - ( case x of { 1 -> 2 } ) ; g x = ( case x of { A -> 1 } ) + 1 ; x + y = case x of { 1 -> 2 ; 1 -> 3 ; _ -> 1 } ; h = ( + ( case A of { A -> 1 } ) )", "M.f! M.g! M.+.2 M.h!"},
		{"f = let { infixl 5 % ; A % x = 1 ; ( % ) B x = 2 ; y :: Int ; y = 1 } in A % y", "M.f!"},
		{"f = let { } in let { a = b ; b = case A of { A -> 1 ; A -> 2 } } in a", "M.f! M.f.2"},
	})
}

func TestWarningsOfInstances(t *testing.T) {
	checkWarned(t, [][2]string{
		{"class K a where { m , n :: a -> Int } ; instance K D where { m A = 1 ; m A = 2 ; n x = case x of { A -> 1 } }", "M.K! M.K.2 M.K!"},
		{"class K a where { m , n :: a -> Int } ; f A = 1 ; instance K D where { n x = g x where { g B = 1 } ; m _ = 1 ; m A = 2 } ; instance K Bool where { m True = 1 ; m False = 2 ; n x | x = 1 } ; g B = 1", "M.f! M.K! M.K.2 M.K! M.g!"},
		{"module A where { class K a where { m :: a -> Int } ; f True = 1 } module B where { import A ; data D = D | E ; instance K D where { m D = 1 } ; g E = 1 }", "A.f! A.K! B.g!"},
		{"module B where { import A ; data D = D | E ; instance K D where { m D = 1 } ; g E = 1 } module A where { class K a where { m :: a -> Int } ; f True = 1 }", "A.f! A.K! B.g!"},
		{"module A where { f True = 1 } module B where { f True = 1 } module C where { f True = 1 }", "A.f! B.f! C.f!"},
		{"module C where { f True = 1 } module A where { f True = 1 } module B where { f True = 1 }", "C.f! A.f! B.f!"},
	})
}

const derivable = "class Eq a where { (==) :: a -> a -> Bool } ; class Ord a where { (<=) :: a -> a -> Bool } ; class Show a where { show :: a -> [ Char ] } ; "

// What is derived leaves nothing out, and has no row too many, as long as there are not more rows or ways than may be.
func TestWarningsOfWhatIsDerived(t *testing.T) {
	for count, want := range map[int]string{1: "", 2: "", 3: "", 20: "", 21: "M.Ord!", 59: "M.Ord!", 60: "M.Eq! M.Ord!", 61: "M.Eq! M.Ord! M.Show!"} {
		checkWarned(t, [][2]string{
			{"module M where { " + derivable + "data D = " + numberedNames("A", count, " | ") + " deriving ( Eq , Ord , Show ) }", want},
			{"module M where { " + derivable + "data D a = " + numberedNames("A", count, " a Int | ") + " ( D a ) deriving ( Eq , Ord , Show ) }", want},
		})
	}
	checkWarned(t, [][2]string{
		{"module M where { " + derivable + "data D = " + numberedNames("A", 60, " | ") + " deriving ( Show , Eq ) ; f A0 = 1 }", "M.Eq! M.f!"},
		{"module M where { f A0 = 1 ; " + derivable + "data D = " + numberedNames("A", 60, " | ") + " deriving ( Show , Eq ) }", "M.f! M.Eq!"},
	})
}

// Of what Cover has a code for nothing is known to be matched.
func TestWarningsOfWhatCoverDoesNotTake(t *testing.T) {
	many := func(count int, last string) string {
		var clauses []string
		for i := range count - 1 {
			clauses = append(clauses, fmt.Sprintf("f %d = 1", i))
		}
		return strings.Join(append(clauses, "f "+last+" = 1"), " ; ")
	}
	wide := "( " + strings.Repeat("_ , ", 398) + "_ )"
	checkWarned(t, [][2]string{
		{many(60, "_"), ""},
		{many(61, "_"), "M.f!"},
		{many(61, "7"), "M.f!"},
		{many(61, "x") + " ; g A = 1", "M.f! M.g!"},
		{many(60, "x") + " where { g A = 1 }", "M.f!"},
		{many(61, "x") + " where { g A = 1 }", "M.f! M.f!"},
		{"f True = 1 ; f 1 = 2 ; f _ = 3", "M.f!"},
		{"f ( A x ) = 1 ; f _ = 2", "M.f!"},
		{"f C = 1 ; f _ = 2 ; f _ = 3", "M.f!"},
		{"f [ ] = 1 ; f ( ) = 1 ; f _ = case A of { A -> 1 ; 1 -> 2 ; _ -> 3 }", "M.f! M.f!"},
		{"f " + strings.Replace(wide, "( ", "[ ", 1)[:len(wide)-1] + "] = 1 ; f _ = 2", ""},
		{"f " + strings.Replace(wide, "( ", "[ _ , ", 1)[:len(wide)+3] + "] = 1 ; f _ = 2", "M.f!"},
		{"f ( _ , _ , _ , _ , _ , _ , _ ) = 1", ""},
		{"f ( _ , _ , _ , _ , _ , _ , _ , _ ) = 1", "M.f!"},
		{"f " + strings.Repeat("A ", 9) + "= 1 ; f " + strings.Repeat("B ", 9) + "= 2 ; f " + strings.Repeat("( C _ ) ", 9) + "= 3 ; f " + strings.Repeat("_ ", 9) + "= 3", "M.f!"},
		{"f " + strings.Repeat("A ", 8) + "= 1 ; f " + strings.Repeat("B ", 8) + "= 2 ; f " + strings.Repeat("( C _ ) ", 8) + "= 3 ; f " + strings.Repeat("_ ", 8) + "= 3", ""},
	})
}

func TestWarningsOfModulesThatAreAtOdds(t *testing.T) {
	for _, list := range slices.Concat(tableLists(t), severalPrograms(t)) {
		got := checkWarnings(t, list)
		if impl.TableOf(list).Code != 0 && (got != "" || impl.Warnings(list) != nil) {
			t.Errorf("%.500s is %s", kinded(tree(0, "", list...)), got)
		}
	}
	for _, list := range [][]impl.Node{nil, {}, {{}}, modulesOf(t, "module M where { f True = 1 ; f True = g }"), modulesOf(t, "module M where { f True = 1 ; data D = D E }"), modulesOf(t, "module M where { f True = 1 ; f x y = 2 }")} {
		if got := impl.Warnings(list); got != nil {
			t.Errorf("is %v", got)
		}
	}
}

// Programs of the layers below, in any order of modules.
func TestWarningsOfDrawnPrograms(t *testing.T) {
	m := &progMaker{Rand: rand.New(rand.NewPCG(12, 4))}
	seen := map[bool]int{}
	for range 40 {
		got := checkWarnings(t, []impl.Node{parsed(t, m.module())})
		seen[got == ""]++
	}
	for _, list := range inferLists(t) {
		checkWarnings(t, list)
	}
	d := &declMaker{Rand: rand.New(rand.NewPCG(12, 5))}
	for range 40 {
		list := d.modules(t)
		want := checkWarnings(t, list)
		turned := slices.Clone(list)
		slices.Reverse(turned)
		texts := strings.Fields(checkWarnings(t, turned))
		others := strings.Fields(want)
		slices.Sort(texts)
		slices.Sort(others)
		if !slices.Equal(texts, others) {
			t.Errorf("%s\nis %s, turned %s", strings.Join(textsOf(list, impl.Print), "\n"), want, strings.Join(texts, " "))
		}
	}
	if seen[false] < 10 {
		t.Errorf("there are %v", seen)
	}
}

// A program of one thing with drawn rows is warned of as Cover tells, with guards for the rows that are open.
func TestWarningsOfDrawnRows(t *testing.T) {
	list := []impl.Node{parsed(t, "module M where { "+coverDatas+"}")}
	m := newPatternMaker(t, list, 6)
	seen := map[bool]int{}
	for range 300 {
		rows, open := m.rows(3)
		open = append(open, make([]bool, len(rows))...)[:len(rows)]
		module := cloneTree(list[0])
		for i, row := range rows {
			right := tree(impl.NRhs, "", tree(impl.NNum, "1"))
			if open[i] {
				right = tree(impl.NRhs, "", tree(impl.NGuard, "", tree(impl.NCon, "False"), tree(impl.NNum, "1")))
			}
			clause := tree(impl.DClause, "f")
			count := 0
			for _, p := range row {
				clause.Kids = append(clause.Kids, mapTree(p, func(n impl.Node) impl.Node {
					n.Name = strings.TrimPrefix(n.Name, "M.")
					if n.Kind == impl.PVar || n.Kind == impl.PAs {
						count++
						n.Name = "v" + strconv.Itoa(count)
					}
					if n.Kind == impl.PCon && (n.Name[0] == '(' || n.Name == "[]") {
						n.Kind, n.Name = map[bool]int64{true: impl.PTuple, false: impl.PList}[n.Name[0] == '('], ""
					}
					return n
				}))
			}
			clause.Kids = append(clause.Kids, right)
			module.Kids = append(module.Kids, clause)
		}
		r := impl.Cover(list, rows, open)
		var want []impl.Warning
		if !r.All {
			want = append(want, impl.Warning{Name: "M.f", Kind: 1})
		}
		for _, row := range r.Redundant {
			want = append(want, impl.Warning{Name: "M.f", Kind: 2, Row: row + 1})
		}
		if got := impl.Warnings([]impl.Node{module}); warningsText(got) != warningsText(want) {
			t.Fatalf("%s\nis %s, not %s", impl.Print(module), warningsText(got), warningsText(want))
		}
		seen[len(want) == 0]++
	}
	if seen[true] < 10 || seen[false] < 100 {
		t.Errorf("there are %v", seen)
	}
}
