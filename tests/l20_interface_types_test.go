package tests

import (
	"slices"
	"strconv"
	"strings"
	"testing"

	"loop.example/g00017/impl"
)

// checkLineOfF holds what is told of a module with the value f alone, exported or declared, against a text.
func checkLineOfF(t *testing.T, types []impl.Typed, want string) {
	t.Helper()
	for _, module := range []impl.Node{defining("M", value("f", tree(impl.NNum, "1"))), exporting("M", []string{"f"}, value("f", tree(impl.NNum, "1"))), exporting("M", []string{"f"})} {
		if got := checkInterface(t, module, types); got != want {
			t.Errorf("%.300s, not %.300s", got, want)
		}
	}
}

// Of several types with one name the first one counts, with a fault or without.
func TestSeveralTypesOfOneName(t *testing.T) {
	good, other, faulty := typedAs("M.f", "Int", ""), typedAs("M.f", "Char", "L.Eq@0"), impl.Typed{Name: "M.f"}
	checkLineOfF(t, []impl.Typed{good, other}, "f :: Int\n")
	checkLineOfF(t, []impl.Typed{other, good, good}, "f :: (Eq ?) => Char\n")
	checkLineOfF(t, []impl.Typed{good, faulty}, "f :: Int\n")
	checkLineOfF(t, []impl.Typed{faulty, good}, "")
	checkLineOfF(t, []impl.Typed{typedAs("M.g", "Bool", ""), faulty, typedAs("M.e", "Bool", ""), good, other}, "")
	checkLineOfF(t, []impl.Typed{typedAs("M.g", "Bool", ""), good, typedAs("M.e", "Bool", ""), faulty, other}, "f :: Int\n")
	inEachOrder([]impl.Typed{good, other, faulty, typedAs("M.f", "Bool", "")}, func(types []impl.Typed) {
		want := "f :: " + impl.FormatScheme(types[0].Scheme) + "\n"
		if types[0].Scheme.Type.Kind == 0 {
			want = ""
		}
		checkLineOfF(t, types, want)
	})
}

// A type counts by the module's name, a dot and the own name, all of it.
func TestTypesOfOtherNames(t *testing.T) {
	names := []string{"f", ".f", "N.f", "m.f", "MM.f", "M'.f", "AM.f", "M.M.f", "A.M.f", "M.f.f", "M.f'", "M.ff", "M.F", "M.", "M", "", "M..f", "M.f.", "Mf", "M-f", "M:f", "M f", "M. f", " M.f", "M.f ", "M.f\n", "M.f\x00", "M.g", "m.F"}
	var types []impl.Typed
	for _, name := range names {
		checkLineOfF(t, []impl.Typed{typedAs(name, "Char", "")}, "")
		types = append(types, typedAs(name, "Char", ""))
	}
	checkLineOfF(t, types, "")
	for at := range len(types) + 1 {
		checkLineOfF(t, slices.Insert(slices.Clone(types), at, typedAs("M.f", "Int", "")), "f :: Int\n")
	}
	for _, name := range []string{"M", "A", "M'", "MM", "M_1"} {
		all := append(slices.Clone(types), typedAs("A.f", "A.T", ""), typedAs("MM.f", "MM.T", ""), typedAs("M.f", "M.T", ""), typedAs("M'.f", "M'.U", ""), typedAs("M_1.f", "M_1.V", ""))
		want := map[string]string{"M": "f :: T\n", "A": "f :: T\n", "M'": "f :: Char\n", "MM": "f :: Char\n", "M_1": "f :: V\n"}[name]
		if got := checkInterface(t, defining(name, value("f", tree(impl.NNum, "1"))), all); got != want {
			t.Errorf("%s: %s, not %s", name, got, want)
		}
	}
}

// A dot in what an operator is stays one of the operator.
func TestTypesOfOperatorsWithDots(t *testing.T) {
	types := []impl.Typed{typedAs("M..", "Int", ""), typedAs("M....", "Char", ""), typedAs("M.+.", "Bool", ""), typedAs("M.:.", "()", ""), typedAs("M..+", "[]{Int}", "")}
	const want = "(.) :: Int\n(...) :: Char\n(+.) :: Bool\n(:.) :: ()\n(.+) :: [Int]\n"
	if got := checkInterface(t, exporting("M", []string{".", "...", "+.", "..", ":.", ".+", ".."}), types); got != "" {
		t.Errorf("two dots are no operator, but it is %s", got)
	}
	if got := checkInterface(t, exporting("M", []string{".", "...", "+.", ":.", ".+"}), types); got != want {
		t.Errorf("%s", got)
	}
}

func TestSchemesInInterfaces(t *testing.T) {
	for _, row := range [][3]string{
		{"->{@0 @0}", "", "a -> a"},
		{"->{@1 ->{@0 @1}}", "", "a -> b -> a"},
		{"->{->{@0 @1} ->{[]{@0} []{@1}}}", "", "(a -> b) -> [a] -> [b]"},
		{"->{->{->{@0 @1} @2} ->{->{@1 @2} @0}}", "", "((a -> b) -> c) -> (b -> c) -> a"},
		{"->{@0 @0}", "M.K@0", "(K a) => a -> a"},
		{"->{@1 ->{@0 @1}}", "L.Show@0 M.K@1 M.K@0", "(Show b, K a, K b) => a -> b -> a"},
		{"(,){M.T{@0 M.T{@1 Int}} N.M.U{#3}}", "L.Eq@1", "(Eq b) => (T a (T b Int), M.U c)"},
		{"[]{Char}", "L.Eq@0 L.Eq@7", "(Eq ?, Eq ?) => [Char]"},
		{"(,,){@0 #0 @0}", "", "(a, b, a)"},
		{"->", "", "->"},
		{"[]{Int Int}", "", "[] Int Int"},
	} {
		checkLineOfF(t, []impl.Typed{typedAs("M.f", row[0], row[1])}, "f :: "+row[2]+"\n")
	}
	one, names := lettersUpTo(60)
	checkLineOfF(t, []impl.Typed{{Name: "M.f", Scheme: impl.Scheme{Count: -5, Type: one}}}, "f :: ("+strings.Join(names, ", ")+")\n")
}

// A type with a fault is none, at any place of it; the lines of others stay.
func TestTypesWithFaults(t *testing.T) {
	module := exporting("M", []string{"a", "f", "T", "f", "b"}, dataNamed("T", "A"))
	ends := [2]impl.Typed{typedAs("M.a", "Int", ""), typedAs("M.b", "Char", "")}
	deep := nested(impl.MaxDeep-1, typeVar(0))
	for _, one := range []impl.Type{{}, typeVar(-1), typePlace(-1), typeCon(""), {Kind: 4, Name: "T"}, {Kind: -1}, {Kind: impl.TyCon, Id: 1, Name: "T"}, {Kind: impl.TyVar, Name: "a"}, {Kind: impl.TyGen, Args: []impl.Type{typeCon("Int")}}, typeCon("[]", deep), wideType(impl.MaxNodes + 1), typeCon("->", typeCon("Int"), typeCon("T", impl.Type{}))} {
		if got := checkInterface(t, module, []impl.Typed{ends[1], {Name: "M.f", Scheme: impl.Scheme{Count: 1, Type: one}}, ends[0]}); got != "a :: Int\ndata T\nb :: Char\n" {
			t.Errorf("%.200s: %.300s", typeText(one), got)
		}
	}
	for _, one := range []impl.Type{deep, wideType(impl.MaxNodes), typeVar(0)} {
		line := "f :: (Eq ?) => " + impl.FormatType(one) + "\n"
		if got := checkInterface(t, module, []impl.Typed{ends[1], {Name: "M.f", Scheme: impl.Scheme{Preds: predsOf("L.Eq@0"), Type: one}}, ends[0]}); got != "a :: Int\n"+line+"data T\n"+line+"b :: Char\n" {
			t.Errorf("%.200s: %.300s", typeText(one), got)
		}
	}
}

// Types of which one after the other is gone: the lines of those that are left stay as they are.
func TestFewerTypes(t *testing.T) {
	var items []string
	var types []impl.Typed
	for i := range 40 {
		items = append(items, "v"+strconv.Itoa(i))
		types = append(types, typedAs("M.v"+strconv.Itoa(39-i), "W{Int @"+strconv.Itoa(i)+"}", ""))
	}
	for len(types) > 0 {
		want := ""
		for _, x := range slices.Backward(types) {
			want += strings.TrimPrefix(x.Name, "M.") + " :: W Int a\n"
		}
		if got := checkInterface(t, exporting("M", items), types); got != want {
			t.Errorf("%d types: %s", len(types), got)
		}
		types = slices.Delete(types, len(types)/3, len(types)/3+1)
	}
}

// The types that InferProgram tells, of two modules whose things have the same names.
func TestInterfacesOfInferredModules(t *testing.T) {
	list := modulesOf(t, "module Main where { import L ; main = show ( one + two ) ; one = 1 ; f x y = eq x y ; data T = A ; instance Eq T where { eq A A = True } ; g x = [ x , A ] ; two :: Int ; two = 2 ; h p = show p } module L ( Eq , Show , (+) , twice , f ) where { class Eq a where { eq :: a -> a -> Bool } ; class Eq a => Show a where { show :: a -> [ Char ] } ; instance Eq Int where { eq = primEq } ; instance Show Int where { show = primShow } ; infixl 6 + ; (+) = primAdd ; f x = x ; twice k x = k ( k x ) ; hidden = 1 ; g a b = if eq a b then show a else show b } ")
	list[0].Kids[1].Kids = []impl.Node{tree(impl.DNames, "", tree(impl.DItem, "Eq"), tree(impl.DItem, "Show"), tree(impl.DItem, "+"))}
	r := impl.InferProgram(list)
	if r.Code != 0 {
		t.Fatal(r.Code, r.Name)
	}
	for i, want := range []string{
		"main :: [Char]\none :: Int\nf :: (Eq a) => a -> a -> Bool\ndata T\ng :: T -> [T]\ntwo :: Int\nh :: (Show a) => a -> [Char]\n",
		"class Eq\nclass Show\n(+) :: Int -> Int -> Int\ntwice :: (a -> a) -> a -> a\nf :: a -> a\n",
	} {
		if got := checkInterface(t, list[i], r.Types); got != want {
			t.Errorf("%s\nnot\n%s", got, want)
		}
	}
	list[1].Kids[0] = tree(impl.DNames, "all")
	if got := checkInterface(t, list[1], r.Types); got != "class Eq\nclass Show\n(+) :: Int -> Int -> Int\nf :: a -> a\ntwice :: (a -> a) -> a -> a\nhidden :: Int\ng :: (Show a) => a -> a -> [Char]\n" {
		t.Errorf("%s", got)
	}
}
