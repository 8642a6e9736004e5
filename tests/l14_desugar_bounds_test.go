package tests

import (
	"fmt"
	"slices"
	"strconv"
	"strings"
	"testing"
	"time"

	"loop.example/g00017/impl"
)

func isZeroCore(c impl.Core) bool { return coreText(c) == coreText(impl.Core{}) }

// checkBound says whether there is a term with so many terms and names, or levels, up to the bound and none beyond it.
func checkBound(t *testing.T, what string, list []impl.Node, main string, size, levels int) {
	t.Helper()
	got := checkSugar(t, list, main)
	if isZeroCore(got) != (size > 20000 || levels > 1000) {
		t.Errorf("%s: there is a term: %v", what, !isZeroCore(got))
	}
	terms, names, deep := coreMeasures(got)
	if !isZeroCore(got) && (terms+names != size || deep != levels) {
		t.Errorf("%s: there are %d terms and names, and %d levels", what, terms+names, deep)
	}
}

// countedUp joins texts with numbers from 1 on.
func countedUp(count int, form, between string) string {
	var texts []string
	for i := range count {
		texts = append(texts, strings.ReplaceAll(form, "#", strconv.Itoa(i+1)))
	}
	return strings.Join(texts, between)
}

func inModule(t *testing.T, text string) []impl.Node {
	t.Helper()
	return modulesOf(t, "module M where { "+text+" }")
}

// What is built in has 23 terms and names, a thing that is a number 6.
func TestCoreSizesAtTheBound(t *testing.T) {
	t.Parallel()
	for _, tuple := range []struct {
		text string
		more int
	}{{"(1,1)", 2}, {"(1,1,1)", 3}, {"(1,1,1,1)", 4}} {
		size := 23 + 6 + tuple.more + 6*3328
		checkBound(t, tuple.text, inModule(t, countedUp(3328, "a# = 1", ";")+"; f = "+tuple.text), "M.f", size, 6)
		checkBound(t, tuple.text+" first", inModule(t, "f = "+tuple.text+";"+countedUp(3328, "a# = 1", ";")), "M.f", size, 6)
	}
	// The names of fields count, those that a function takes too.
	for _, fields := range []int{19965, 19966, 19967, 19980} {
		data := modulesOf(t, "module P where { data T = T ; data D = D"+strings.Repeat(" T", fields)+" }")
		user := modulesOf(t, "module M where { import P ; f (D"+strings.Repeat(" _", fields)+") = 1 }")
		checkBound(t, fmt.Sprint(fields, " fields"), slices.Concat(data, user), "M.f", 34+fields, 6)
	}
	checkBound(t, "190 patterns", inModule(t, "f"+strings.Repeat(" _", 190)+" = 1"), "M.f", 220, 6)
	// Many modules, each with things.
	var list []impl.Node
	for i := range 332 {
		list = append(list, parsed(t, fmt.Sprintf("module A%d where { %s }", i, countedUp(10, "a# = 1", ";"))))
	}
	for more := 7; more <= 9; more++ {
		user := parsed(t, "module B where { "+countedUp(more, "a# = 1 ;", "")+"f = 1 }")
		checkBound(t, fmt.Sprint(3321+more, " things"), append(slices.Clone(list), user), "B.f", 23+6*(3321+more), 6)
	}
}

func TestCoreLevelsAtTheBound(t *testing.T) {
	t.Parallel()
	const plus = "x + y = x ; infixl 5 + ; infixr 5 ++ ; x ++ y = x ; f = "
	levels := func(c impl.Core) int {
		_, _, deep := coreMeasures(c)
		return deep
	}
	for _, row := range []struct {
		what string
		most int
		make func(count int) string
	}{
		{"elements", 997, func(n int) string { return "f = [ " + countedUp(n, "#", ",") + " ]" }},
		{"clauses", 996, func(n int) string { return countedUp(n, "f _ = #", ";") }},
		{"clauses that may fail", 995, func(n int) string { return countedUp(n, "f # = #", ";") }},
		{"alternatives", 995, func(n int) string { return "f = case 1 of { " + countedUp(n, "_ -> #", ";") + " }" }},
		{"guards", 997, func(n int) string { return "f " + countedUp(n, "| True = #", " ") }},
		{"operators to the left", 997, func(n int) string { return plus + "1" + countedUp(n, "+ #", " ") }},
		{"operators to the right", 997, func(n int) string { return plus + "1" + countedUp(n, "++ #", " ") }},
		{"cells", 997, func(n int) string { return "f = " + countedUp(n, "#", ":") + ": []" }},
		{"tests", 996, func(n int) string { return "f = [ 1 | " + countedUp(n, "True", ",") + " ]" }},
		{"chars in a pattern", 497, func(n int) string { return "f \"" + countedUp(n, "a", "") + "\" = 1" }},
		{"patterns in a list", 497, func(n int) string { return "f [ " + countedUp(n, "x#", ",") + " ] = 1" }},
		{"generators", 248, func(n int) string { return "f x = [ 1 | " + countedUp(n, "_ <- x", ",") + " ]" }},
	} {
		fits, over := checkSugar(t, inModule(t, row.make(row.most)), "M.f"), checkSugar(t, inModule(t, row.make(row.most+1)), "M.f")
		if isZeroCore(fits) || levels(fits) < 997 || !isZeroCore(over) {
			t.Errorf("%d %s are %d levels; one more: %v", row.most, row.what, levels(fits), !isZeroCore(over))
		}
	}
}

// A tree as deep as may be, of each form that can stand in itself.
func TestDeepCores(t *testing.T) {
	for what, row := range map[string]struct {
		ahead, behind string
		count         int
	}{
		"lists":     {"[", "]", 190},
		"tuples":    {"(1,", ")", 6},
		"lambdas":   {"\\ _ -> ", "", 190},
		"lets":      {"let { x = 1 } in ", "", 190},
		"cases":     {"case 1 of { 1 -> ", " }", 60},
		"ifs":       {"if True then 1 else ", "", 190},
		"sections":  {"(primAdd 1) (", ")", 190},
		"calls":     {"primAdd 1 (", ")", 190},
		"things":    {"let { x = ", " } in x", 60},
		"tests":     {"case [ 1 | primEq 1 (", ") ] of { _ -> 1 }", 40},
		"sources":   {"[ 1 | _ <- ", " ]", 90},
		"heads":     {"[", " | True ]", 190},
		"ranges":    {"case [ 1 .. ", " ] of { _ -> 1 }", 60},
		"patterns":  {"case [] of { [] -> ", " }", 60},
		"functions": {"(\\ x -> x) (", ")", 90},
	} {
		inner := "1"
		if what == "sources" {
			inner = "[]"
		}
		list := inModule(t, "f = "+strings.Repeat(row.ahead, row.count)+inner+strings.Repeat(row.behind, row.count))
		if isZeroCore(checkSugar(t, list, "M.f")) {
			r := impl.InferProgram(list)
			t.Errorf("%s: there is none, with code %d", what, r.Code)
		}
	}
}

// renamedTree puts a name for another one in a tree.
func renamedTree(n impl.Node, from, to string) impl.Node {
	return mapTree(n, func(kid impl.Node) impl.Node {
		if kid.Name == from {
			kid.Name = to
		}
		return kid
	})
}

// What no match tells is a text, of which the length is bounded; the longest names leave no room for it.
func TestCoreTextsAtTheBound(t *testing.T) {
	for _, row := range []struct {
		text string
		room int // what stands ahead of the name
	}{
		{"f = 1 ; name = 2", 14},
		{"f = name where { name = 2 }", 12},
		{"f = let { name x = 2 } in 1", 12},
		{"class C a where { name :: a -> a } ; f = 1", 14},
		{"class D a where { name :: a } ; instance D Int where { name = 1 } ; f = 1", 16},
	} {
		for _, length := range []int{59983, 59984, 59985, 59986, 59987, 59988, 59989, 60000} {
			list := []impl.Node{renamedTree(inModule(t, row.text)[0], "name", strings.Repeat("n", length))}
			got := impl.CoreOf(list, "M.f")
			if isZeroCore(got) != (row.room+length > 60000) {
				t.Errorf("%s: with %d bytes there is a term: %v", row.text, length, !isZeroCore(got))
			}
		}
	}
	// Other names are as long as they may be.
	long := strings.Repeat("n", 60000)
	for _, text := range []string{"f name = name", "f ~[name] = \\ name -> [ name | name <- [] ]", "f = 1 ; data Name a = A"} {
		list := []impl.Node{renamedTree(inModule(t, text)[0], "name", long)}
		if isZeroCore(checkSugar(t, list, "M.f")) {
			t.Errorf("%s: there is none", text)
		}
	}
	// Strings are texts, too: what a derived instance tells of a constructor may be longer than any that is written.
	text := "class Show a where { show :: a -> [Char] } ; data T = Name T deriving (Show) ; f = 1"
	for length, want := range map[int]bool{59998: true, 59999: true, 60000: false} {
		list := []impl.Node{renamedTree(inModule(t, text)[0], "Name", "N"+strings.Repeat("n", length-1))}
		if got := impl.CoreOf(list, "M.f"); isZeroCore(got) == want {
			t.Errorf("a constructor of %d bytes: there is a term: %v", length, !want)
		}
	}
	list := []impl.Node{mapTree(inModule(t, "f = \"s\"")[0], func(n impl.Node) impl.Node {
		if n.Kind == impl.NStr {
			n.Name = strings.Repeat("s", 59998)
		}
		return n
	})}
	if isZeroCore(checkSugar(t, list, "M.f")) {
		t.Error("a string of 59998 bytes: there is none")
	}
}

func TestCoreNumbersAtTheBound(t *testing.T) {
	for _, digits := range []string{"0", "4294967295", "4294967296", "18446744073709551616", "1" + strings.Repeat("0", 299), strings.Repeat("9", 300)} {
		text := "f " + digits + " = " + digits
		want := fmt.Sprintf(`(\@1 -> (let @2 = !M.f in (case (primEq @1 %s) of { True -> %s; False -> @2 })))`, digits, digits)
		if digits != "0" {
			text = "f (- " + digits + ") = " + digits
			want = strings.Replace(want, "@1 "+digits, "@1 -"+digits, 1)
		}
		checkThing(t, "", [][2]string{{text, want}})
	}
}

// nestedLazily has lazy patterns, each in the one ahead: for each name of one all that are in it are made again.
func nestedLazily(levels int) string {
	return countedUp(levels, "~(x#, ", "") + "1" + strings.Repeat(")", levels)
}

// inTime fails if something takes far too long.
func inTime(t *testing.T, what string, do func()) {
	t.Helper()
	start := time.Now()
	do()
	if took := time.Since(start); took > 60*time.Second {
		t.Errorf("%s took %v", what, took)
	}
}

func TestCoresOfLazyPatternsGrow(t *testing.T) {
	t.Parallel()
	sizes := map[int]int{}
	for levels := 1; levels <= 6; levels++ {
		list := inModule(t, "f "+nestedLazily(levels)+" = 1")
		got := checkSugar(t, list, "M.f")
		terms, names, _ := coreMeasures(got)
		sizes[levels] = terms + names
		if isZeroCore(got) != (levels > 5) {
			t.Errorf("%d levels: there is a term: %v", levels, !isZeroCore(got))
		}
	}
	if sizes[5] < 5000 {
		t.Errorf("sizes %v", sizes)
	}
	inTime(t, "60 lazy patterns in each other", func() {
		for _, text := range []string{"f " + nestedLazily(60) + " = 1", "f = \\ " + nestedLazily(60) + " -> 1", "f = case 1 of { _ -> [ 1 | " + nestedLazily(60) + " <- [] ] }", "f = let { g " + nestedLazily(50) + " = 1 } in g"} {
			list := inModule(t, text)
			if r := impl.InferProgram(list); r.Code != 0 || !isZeroCore(impl.CoreOf(list, "M.f")) {
				t.Errorf("%.40s has the code %d, or a term", text, r.Code)
			}
		}
	})
	for count, want := range map[int]bool{40: true, 49: true, 50: false, 300: false} {
		if got := checkSugar(t, inModule(t, "f ~[ "+countedUp(count, "x#", ",")+" ] = 1"), "M.f"); isZeroCore(got) == want {
			t.Errorf("%d names: there is a term: %v", count, !want)
		}
	}
	if !isZeroCore(impl.CoreOf(inModule(t, "f ~[ "+countedUp(5000, "x#", ",")+" ] = 1"), "M.f")) {
		t.Error("5000 names: there is a term")
	}
	// Patterns without names in lazy ones are looked at very often.
	inTime(t, "a large pattern in lazy ones", func() {
		inner := "[ " + countedUp(9000, "~_", ",") + " ]"
		list := inModule(t, "f "+countedUp(60, "~(x#, ", "")+"~"+inner+strings.Repeat(")", 60)+" = 1")
		if r := impl.InferProgram(list); r.Code != 0 || !isZeroCore(impl.CoreOf(list, "M.f")) {
			t.Errorf("it has the code %d, or a term", r.Code)
		}
	})
}

// Far more than the bound is soon refused.
func TestCoresFarBeyondTheBound(t *testing.T) {
	t.Parallel()
	long := tree(impl.PStr, strings.Repeat("s", 59998))
	right := tree(impl.NRhs, "", tree(impl.NNum, "1"))
	var clauses []impl.Node
	for range 30 {
		clauses = append(clauses, tree(impl.DClause, "f", long, right))
	}
	var elements, fields []impl.Node
	for range 20 {
		elements = append(elements, long)
		fields = append(fields, tree(impl.PTuple, "", long, long))
	}
	x := tree(impl.PVar, "x")
	whole := func(decls ...impl.Node) []impl.Node {
		return []impl.Node{tree(impl.DModule, "M", append([]impl.Node{tree(impl.DNames, "all")}, decls...)...)}
	}
	inTime(t, "long strings", func() {
		for what, list := range map[string][]impl.Node{
			"clauses":  whole(clauses...),
			"a list":   whole(tree(impl.DClause, "f", tree(impl.PList, "", elements...), right)),
			"lazy":     whole(tree(impl.DClause, "f", tree(impl.PLazy, "", tree(impl.PTuple, "", tree(impl.PList, "", elements...), x)), right)),
			"tuples":   whole(tree(impl.DClause, "f", tree(impl.PList, "", fields...), right)),
			"of names": whole(tree(impl.DClause, "f", tree(impl.PLazy, "", tree(impl.PTuple, "", x, tree(impl.PList, "", fields...))), right)),
		} {
			if r := impl.InferProgram(list); r.Code != 0 {
				t.Errorf("%s: the code is %d", what, r.Code)
			}
			if !isZeroCore(impl.CoreOf(list, "M.f")) {
				t.Errorf("%s: there is a term", what)
			}
		}
	})
	// A string with names around it that are asked for does not make it shorter.
	short := whole(tree(impl.DClause, "f", tree(impl.PLazy, "", tree(impl.PList, "", elements...)), right))
	if isZeroCore(checkSugar(t, short, "M.f")) {
		t.Error("a lazy pattern without names: there is no term")
	}
	inTime(t, "large modules", func() {
		var list []impl.Node
		for i := range 8 {
			list = append(list, parsed(t, fmt.Sprintf("module A%d where { %s }", i, countedUp(1500, "a# x = case x of { 1 -> 2 }", ";"))))
		}
		if r := impl.InferProgram(list); r.Code != 0 || !isZeroCore(impl.CoreOf(list, "A7.a9")) {
			t.Errorf("it has the code %d, or a term", r.Code)
		}
	})
	deep := inModule(t, "x + y = x ; infixl 5 + ; f = 1"+strings.Repeat(" + 1", 6000))
	if r := impl.InferProgram(deep); r.Code != 0 || !isZeroCore(impl.CoreOf(deep, "M.f")) {
		t.Errorf("it has the code %d, or a term", r.Code)
	}
}
