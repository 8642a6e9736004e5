package tests

import (
	"slices"
	"strings"
	"testing"

	"loop.example/g00017/impl"
)

// The declarations of a module that has all sorts of them.
const sortsOfDecls = "import N ; infixl 3 + , ` f ` ; data T a b = A | B a ( T a b ) deriving ( Eq ) ; f , g :: a ; f 1 = 1 ; f x = x ; class ( K2 a ) => K a where { k :: a } ; (+) = primAdd ; g y = y ; ( ! ) x = x ; instance K Int where { k = 1 } ; ( ~ ) x y = ( ) ; class K2 b where { } ; ( . ) = f ; _x' = 1 ; data T2 = T ; bad = f ; none = f"

func exportingSorts(items string) string {
	return "module M ( " + items + " ) where { " + sortsOfDecls + " }"
}

func TestExportsInTheirOrder(t *testing.T) {
	checkInterfaces(t, someTyped(), [][2]string{
		{exportingSorts("f"), "f :: a -> a\n"},
		{exportingSorts("g"), "g :: (Eq a, Show b) => a -> b\n"},
		{exportingSorts("(+)"), "(+) :: Int -> Int -> Int\n"},
		{exportingSorts("(!)"), "(!) :: (a -> b) -> [T b]\n"},
		{exportingSorts("(~)"), "(~) :: ()\n"},
		{exportingSorts("(.)"), "(.) :: (a, b)\n"},
		{exportingSorts("_x'"), "_x' :: a\n"},
		{exportingSorts("T"), "data T\n"},
		{exportingSorts("K"), "class K\n"},
		{exportingSorts("f , g , T , K"), "f :: a -> a\ng :: (Eq a, Show b) => a -> b\ndata T\nclass K\n"},
		{exportingSorts("K , T , g , f"), "class K\ndata T\ng :: (Eq a, Show b) => a -> b\nf :: a -> a\n"},
		{exportingSorts("T2 , (~) , K2 , f , (+) , T , _x' , K"), "data T2\n(~) :: ()\nclass K2\nf :: a -> a\n(+) :: Int -> Int -> Int\ndata T\n_x' :: a\nclass K\n"},
	})
}

// Items in each order: the lines stand as they do, whatever stands where among the declarations.
func TestExportsInEachOrder(t *testing.T) {
	lines := map[string]string{"f": "f :: a -> a\n", "+": "(+) :: Int -> Int -> Int\n", "T": "data T\n", "K": "class K\n", "u": "u :: [Char]\n", "W": "", "bad": ""}
	module := parsed(t, exportingSorts(""))
	turned := slices.Clone(module.Kids[2:]) // the import stays ahead
	slices.Reverse(turned)
	turned = slices.Insert(turned, 0, module.Kids[1])
	inEachOrder([]string{"f", "+", "T", "K", "u", "W", "bad"}, func(items []string) {
		want := ""
		for _, item := range items {
			want += lines[item]
		}
		for _, decls := range [][]impl.Node{module.Kids[1:], turned} {
			if got := impl.Interface(exporting("M", items, decls...), someTyped()); got != want {
				t.Errorf("%v: %q, not %q", items, got, want)
			}
		}
	})
}

// Each item has a line, also one that comes again.
func TestExportsThatComeAgain(t *testing.T) {
	checkInterfaces(t, someTyped(), [][2]string{
		{exportingSorts("f , f"), "f :: a -> a\nf :: a -> a\n"},
		{exportingSorts("T , f , T , K , T"), "data T\nf :: a -> a\ndata T\nclass K\ndata T\n"},
		{exportingSorts("K , K , (+) , (+)"), "class K\nclass K\n(+) :: Int -> Int -> Int\n(+) :: Int -> Int -> Int\n"},
		{exportingSorts("none , none , U , U , f"), "f :: a -> a\n"},
	})
}

// A value has to have a type, a data or class to be declared.
func TestExportsOfWhatIsNotThere(t *testing.T) {
	checkInterfaces(t, someTyped(), [][2]string{
		{exportingSorts("u"), "u :: [Char]\n"},
		{exportingSorts("(%%)"), "(%%) :: Bool\n"},
		{exportingSorts("k"), "k :: (K a) => a\n"},
		{exportingSorts("none"), ""},
		{exportingSorts("bad"), ""},
		{exportingSorts("v , (***) , primAdd"), ""},
		{exportingSorts("U , V , N , Int , Eq"), ""},
		{exportingSorts("U , u , v , T , V , (***) , (%%) , K , L"), "u :: [Char]\ndata T\n(%%) :: Bool\nclass K\n"},
		{"module M ( f , T , K , u , (+) ) where { }", "f :: a -> a\nu :: [Char]\n(+) :: Int -> Int -> Int\n"},
		{"module M ( f , T ) where { import N ( f , T ) }", "f :: a -> a\n"},
		{"module M ( f , T , K ) where { f :: a ; instance K T where { } ; infix 3 ` f ` , ` T ` ; g = f where { k = 1 } }", "f :: a -> a\n"},
	})
}

// The name of a constructor is about a data or class, if one has it.
func TestExportsOfConstructors(t *testing.T) {
	checkInterfaces(t, someTyped(), [][2]string{
		{exportingSorts("A"), ""},
		{exportingSorts("B , A , f"), "f :: a -> a\n"},
		{"module M ( A , T , K ) where { data T = A | K ; data A = T }", "data A\ndata T\n"},
		{"module M ( U , A ) where { data A = U ; class U a where { } }", "class U\ndata A\n"},
		{"module M ( (:+) , T ) where { data T = A }", "(:+) :: Int -> T Int\ndata T\n"},
		{"module M ( (:) , (:-) ) where { data T = A }", ""},
	})
}

func TestNoExportsAgainstAnEmptyList(t *testing.T) {
	checkInterfaces(t, someTyped(), [][2]string{
		{"module M where { f = 1 ; data T = A ; class K a where { } }", "f :: a -> a\ndata T\nclass K\n"},
		{"module M ( ) where { f = 1 ; data T = A ; class K a where { } }", ""},
		{"module M where { }", ""},
		{"module M ( ) where { }", ""},
	})
}

// What data and class have beside their names is not told.
func TestLinesOfDatasAndClasses(t *testing.T) {
	const decls = "data Box a b_ c' = Box [ a ] ( b_ -> c' ) | Nil ; class ( E a , F a ) => Sort' a where { less :: a -> b -> Bool ; most , least :: a } ; data D = Sort ; data Sort = D D Sort"
	checkInterfaces(t, nil, [][2]string{
		{"module M where { " + decls + " }", "data Box\nclass Sort'\ndata D\ndata Sort\n"},
		{"module M ( Sort , Sort' , D , Box , Nil ) where { " + decls + " }", "data Sort\nclass Sort'\ndata D\ndata Box\n"},
	})
}

// Every name that may be one of an item or of a clause is written so.
func TestNamesOfAllSorts(t *testing.T) {
	names := []string{"a", "z'", "_a", "__", "x_1''", "all", "data'", "caseX", "forall", "_Z"}
	operators := []string{"-", "*", "==", "/=", "<=", "&&", "||", "!!", ".", "..." /* two are a mark */, "\\\\", "<-!", "->-", "=>=", "@@", "~~", "!", "~", "^", "?", "#", "$", "%", "--|", "|--", "=:", "+:+", strings.Repeat("<>", 500)}
	constructors := []string{":", ":+", "::-", ":::"}
	line := func(name string) string {
		if slices.Contains(names, name) {
			return name + " :: T [a]\n"
		}
		return "(" + name + ") :: T [a]\n"
	}
	all := slices.Concat(names, operators, constructors)
	slices.Sort(all)
	var types []impl.Typed
	var decls []impl.Node
	exported, declared := "", ""
	for _, name := range all {
		types = append(types, typedAs("Other.Name."+name, "Int", ""), typedAs("M'1."+name, "Other.T{[]{@5}}", ""), typedAs("M'1."+name, "Int", ""))
		exported += line(name)
		if !slices.Contains(constructors, name) {
			decls = append(decls, value(name, tree(impl.NNum, "1")))
			declared += line(name)
		}
	}
	if got := checkInterface(t, exporting("M'1", all), types); got != exported {
		t.Errorf("%s\nnot\n%s", got, exported)
	}
	if got := checkInterface(t, defining("M'1", decls...), types); got != declared {
		t.Errorf("%s\nnot\n%s", got, declared)
	}
	if got := checkInterface(t, exporting("Other", all), types); got != "" {
		t.Errorf("%s", got)
	}
}
