package tests

import (
	"fmt"
	"strings"
	"testing"

	"loop.example/g00017/impl"
)

func checkFormat(t *testing.T, rows map[string]string) {
	t.Helper()
	for text, want := range rows {
		one := ty(text)
		if got := impl.FormatType(one); got != want || formatSlowly(one) != want {
			t.Errorf("%s: %q, not %q", text, got, want)
		}
	}
}

func TestFunctionsAreWritten(t *testing.T) {
	checkFormat(t, map[string]string{
		"->{#0 #1}":                          "a -> b",
		"->{#0 ->{#1 #2}}":                   "a -> b -> c",
		"->{->{#0 #1} #2}":                   "(a -> b) -> c",
		"->{->{->{#0 #1} #2} #3}":            "((a -> b) -> c) -> d",
		"->{->{#0 ->{#1 #2}} #3}":            "(a -> b -> c) -> d",
		"->{->{#0 #1} ->{->{#2 #3} #4}}":     "(a -> b) -> (c -> d) -> e",
		"->{[]{->{#0 #1}} (,){->{#0 #1} T}}": "[a -> b] -> (a -> b, T)",
		"->{A.T{#0} A.T{#1 #2}}":             "T a -> T b c",
		"[]{->{->{#0 #1} #2}}":               "[(a -> b) -> c]",
		"A.T{->{#0 #1}}":                     "T (a -> b)",
	})
}

func TestListsAndTuplesAreWritten(t *testing.T) {
	checkFormat(t, map[string]string{
		"[]{#0}":                             "[a]",
		"[]{[]{#0}}":                         "[[a]]",
		"[]{A.T{#0}}":                        "[T a]",
		"()":                                 "()",
		"(,){#0 #1}":                         "(a, b)",
		"(,,){#0 #1 #2}":                     "(a, b, c)",
		"(,,,){#0 #1 #2 #0}":                 "(a, b, c, a)",
		"(,,,,,,){#0 #1 #2 #3 #4 #5 #6}":     "(a, b, c, d, e, f, g)",
		"(,,,,,,,){() #1 #2 #3 #4 #5 #6 #7}": "((), a, b, c, d, e, f, g)",
		"(,){(,){#0 #1} #2}":                 "((a, b), c)",
		"(,){->{#0 #1} A.T{#2}}":             "(a -> b, T c)",
		"[]{()}":                             "[()]",
		"A.T{()}":                            "T ()",
		"A.T{[]{#0} (,){#0 #1} (,,){T T T}}": "T [a] (a, b) (T, T, T)",
		"A.T{[]{A.T{#0}} (,){A.T{#0} #1}}":   "T [T a] (T a, b)",
	})
}

func TestOtherConstructorsAreWritten(t *testing.T) {
	checkFormat(t, map[string]string{
		"Int":                "Int",
		"A.T":                "T",
		"A.T{#0}":            "T a",
		"A.T{#0 Int A.U}":    "T a Int U",
		"A.T{A.U{#0} #1}":    "T (U a) b",
		"A.T{A.U{A.V{#0}}}":  "T (U (V a))",
		"A.B.C{A.B.C{#0}}":   "B.C (B.C a)",
		"A.B.C":              "B.C",
		".x":                 ".x",
		"A.":                 "A.",
		"A.{#0 A.{#1}}":      "A. a (A. b)",
		"a.b":                "a.b",
		"A..":                ".",
		"A.x.":               "x.",
		"..x":                "..x",
		".":                  ".",
		"A'1_.T":             "T",
		"A-.T":               "A-.T",
		"A.->{#0 #1}":        "-> a b",
		"A.[]{#0}":           "[] a",
		"A.()":               "()",
		"A.T{A.(){#0}}":      "T (() a)",
		"A.(,){#0 #1}":       "(,) a b",
		"A.T{A.[]{#0}}":      "T ([] a)",
		"A.T{A.(,){#0 #1}}":  "T ((,) a b)",
		"->{A.->{#0 #1} #2}": "-> a b -> c",
	})
}

// What has another number of arguments than it should is written as other constructors are.
func TestOtherNumbersOfArguments(t *testing.T) {
	checkFormat(t, map[string]string{
		"->":                         "->",
		"->{#0}":                     "-> a",
		"->{#0 #1 #2}":               "-> a b c",
		"->{->{#0 #1} #2 ->{#3}}":    "-> (a -> b) c (-> d)",
		"->{->{#0} #1}":              "-> a -> b",
		"->{-> #1}":                  "-> -> a",
		"->{#0 ->{#1}}":              "a -> -> b",
		"->{->{#0 #1 #2} #3}":        "-> a b c -> d",
		"[]":                         "[]",
		"[]{#0 #1}":                  "[] a b",
		"[]{[] []{#0} []{#1 #2}}":    "[] [] [a] ([] b c)",
		"(){#0}":                     "() a",
		"(){#0 #1}":                  "() a b",
		"(,)":                        "(,)",
		"(,){#0}":                    "(,) a",
		"(,){#0 #1 #2}":              "(,) a b c",
		"(,,){#0 #1}":                "(,,) a b",
		"(,,,){(,){#0 #1} (,){#0}}":  "(,,,) (a, b) ((,) a)",
		"T{-> [] (,) ()}":            "T -> [] (,) ()",
		"T{->{#0} []{#0 #0} (){#0}}": "T (-> a) ([] a a) (() a)",
		"({#0}":                      "( a",
		"(,{#0 #1}":                  "(, a b",
	})
}

// lettersUpTo writes a type with so many variables as a tuple; every third one is a place.
func lettersUpTo(count int) (impl.Type, []string) {
	one, names := typeCon("("+strings.Repeat(",", count-1)+")"), []string{}
	for i := range count {
		leaf := typeVar(int64(1000 - i))
		if i%3 == 0 {
			leaf = typePlace(int64(1000 - i))
		}
		name := string(rune('a' + i%26))
		if i >= 26 {
			name += fmt.Sprint(i / 26)
		}
		one.Args, names = append(one.Args, leaf), append(names, name)
	}
	return one, names
}

func TestLetters(t *testing.T) {
	for _, count := range []int{2, 25, 26, 27, 51, 52, 53, 78, 79, 285, 286, 287, 800} {
		one, names := lettersUpTo(count)
		again := typeCon("->", typeCon("->", one, one.Args[count-1]), one.Args[0])
		tuple := "(" + strings.Join(names, ", ") + ")"
		want := "(" + tuple + " -> " + names[count-1] + ") -> a"
		if got := impl.FormatType(again); got != want || formatSlowly(again) != want {
			t.Errorf("%q, not %q", got, want)
		}
	}
	checkFormat(t, map[string]string{"#9": "a", "@9": "a", "(,,,){#3 @3 @0 #3}": "(a, b, c, a)", "->{@1 ->{#1 ->{@0 #0}}}": "a -> b -> c -> d", "T{#5 T{@5 #4} #5 @4 @5}": "T a (T b c) a d b"})
	one, _ := lettersUpTo(100)
	for text, at := range map[string]int{" z,": 25, " a1,": 26, " z1,": 51, " a2,": 52, " v3)": 99} {
		if written := impl.FormatType(one); strings.Count(written, text) != 1 || strings.Count(written[:strings.Index(written, text)], ",") != at {
			t.Errorf("%q is not at %d of %s", text, at, written)
		}
	}
}

func TestFaultyTypesAreNotWritten(t *testing.T) {
	for _, one := range []impl.Type{{}, typeVar(-1), typeCon(""), typeCon("T", impl.Type{}), typeCon("->", typeVar(0), impl.Type{Kind: impl.TyGen, Name: "x"}), nested(impl.MaxDeep, typeVar(0)), wideType(impl.MaxNodes + 1)} {
		s := impl.Scheme{Count: 1, Preds: []impl.Pred{{Class: "C"}}, Type: one}
		if got := impl.FormatType(one) + impl.FormatScheme(s) + impl.FormatScheme(impl.Scheme{Type: one}); got != "" {
			t.Errorf("%.100s: %.100q", typeText(one), got)
		}
	}
}

func TestLargestTypesAreWritten(t *testing.T) {
	if got, want := impl.FormatType(nested(impl.MaxDeep-1, typeVar(0))), strings.Repeat("[", impl.MaxDeep-1)+"a"+strings.Repeat("]", impl.MaxDeep-1); got != want {
		t.Error(got)
	}
	if got, want := impl.FormatType(wideType(impl.MaxNodes)), "W"+strings.Repeat(" Int", impl.MaxNodes-1); got != want {
		t.Errorf("%.100s", got)
	}
	deep := typeVar(0)
	for range impl.MaxDeep - 1 {
		deep = typeCon("->", deep, typeVar(0))
	}
	if got, want := impl.FormatType(deep), strings.Repeat("(", impl.MaxDeep-2)+"a"+strings.Repeat(" -> a)", impl.MaxDeep-2)+" -> a"; got != want {
		t.Error(got)
	}
}

func TestSchemesAreWritten(t *testing.T) {
	preds := func(parts ...any) []impl.Pred {
		var list []impl.Pred
		for i := 0; i < len(parts); i += 2 {
			list = append(list, impl.Pred{Class: parts[i].(string), Id: int64(parts[i+1].(int))})
		}
		return list
	}
	for _, row := range []struct {
		count int64
		preds []impl.Pred
		text  string
		want  string
	}{
		{1, nil, "->{@0 #0}", "a -> b"},
		{1, preds(), "Int", "Int"},
		{2, preds("L.Eq", 0), "->{@0 @1}", "(Eq a) => a -> b"},
		{2, preds("L.Eq", 1), "->{@0 @1}", "(Eq b) => a -> b"},
		{2, preds("L.Eq", 0, "M.Ord", 1), "->{@1 @0}", "(Eq b, Ord a) => a -> b"},
		{2, preds("Ord", 1, "Eq", 0, "Show", 1), "->{@0 @1}", "(Ord b, Eq a, Show b) => a -> b"},
		{2, preds("L.Eq", 0, "L.Eq", 0), "@0", "(Eq a, Eq a) => a"},
		{2, preds("L.Eq", 1), "@0", "(Eq ?) => a"},
		{0, preds("L.Eq", 0), "#0", "(Eq ?) => a"},
		{9, preds("L.Eq", 3, "L.Eq", 0, "L.Eq", -1), "T{#3 @3 #0}", "(Eq b, Eq ?, Eq ?) => T a b c"},
		{0, preds("L.Eq", 5), "->{@5 Int}", "(Eq a) => a -> Int"},
		{1, preds("A.B.C", 0, ".x", 0, "A.", 0, "", 0, "a b", 0), "@0", "(B.C a, .x a, A. a,  a, a b a) => a"},
		{1, preds("C", 7), "Int", "(C ?) => Int"},
	} {
		s := impl.Scheme{Count: row.count, Preds: row.preds, Type: ty(row.text)}
		if got := impl.FormatScheme(s); got != row.want || formatSchemeSlowly(s) != row.want {
			t.Errorf("%s: %q, not %q", schemeText(s), got, row.want)
		}
	}
}

// What stands ahead of a type gives out no letters.
func TestManyPredsOfNoPlace(t *testing.T) {
	one, names := lettersUpTo(60)
	s := impl.Scheme{Type: one}
	want := []string{}
	for id := range int64(1100) {
		s.Preds = append(s.Preds, impl.Pred{Class: "M.C", Id: id})
		letter := "?"
		if at := 1000 - id; at >= 0 && at < 60 && at%3 == 0 {
			letter = names[at]
		}
		want = append(want, "C "+letter)
	}
	if got := impl.FormatScheme(s); got != "("+strings.Join(want, ", ")+") => "+impl.FormatType(one) {
		t.Errorf("%s", got)
	}
}

func TestDrawnTypesAreWritten(t *testing.T) {
	for _, one := range severalTypes() {
		s := impl.Scheme{Count: 3, Preds: []impl.Pred{{Class: "L.Eq", Id: 0}, {Class: "Ord", Id: 1}, {Class: "A.B.C", Id: 30}}, Type: one}
		if got, want := impl.FormatType(one), formatSlowly(one); got != want {
			t.Errorf("%.300s: %.300q, not %.300q", typeText(one), got, want)
		}
		if got, want := impl.FormatScheme(s), formatSchemeSlowly(s); got != want {
			t.Errorf("%.300s: %.300q, not %.300q", schemeText(s), got, want)
		}
	}
}
