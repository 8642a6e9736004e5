package tests

import (
	"slices"
	"strconv"
	"strings"
	"testing"

	"loop.example/g00017/impl"
)

func checkNoCore(t *testing.T, what string, list []impl.Node, main string) {
	t.Helper()
	if got := impl.CoreOf(list, main); !isZeroCore(got) {
		t.Errorf("%s: there is a term %s", what, impl.FormatCore(got))
	}
}

func TestNoCoreWhereInferenceHasACode(t *testing.T) {
	for text, code := range map[string]int64{
		"": 0,
		"module M where { f = 1 } module M where { f = 1 }":                                               1,
		"module M where { import N ; f = 1 }":                                                             1,
		"module M where { f = g }":                                                                        1,
		"module M where { f = 1 ; g = 2 ; f = 3 }":                                                        1,
		"module M where { f = 1 ; f x = 2 }":                                                              1,
		"module M where { f x x = 1 }":                                                                    1,
		"module M where { f = A }":                                                                        1,
		"module M where { f = 1 ; data D = D E }":                                                         1,
		"module M where { f = 1 ; data D a = D b }":                                                       1,
		"module M where { f = 1 ; class D a => C a where { } }":                                           1,
		"module M where { f = 1 ; class C a where { m :: a } ; instance C Int where { } }":                1,
		"module M where { f = primAdd 'a' 1 }":                                                            2,
		"module M where { f = 1 ; g x = x x }":                                                            2,
		"module M where { f = 1 ; g = [ 1 , 'a' ] }":                                                      2,
		"module M where { f (x , y , z , a , b , c , d , e) = 1 }":                                        2,
		"module M where { f = True 1 }":                                                                   2,
		"module M where { f (True _) = 1 }":                                                               2,
		"module M where { data D = D Int ; f D = 1 }":                                                     2,
		"module M where { data D = D Int ; f = D 1 2 }":                                                   2,
		"module M where { f = 1 ; g :: Int ; g = 'a' }":                                                   2,
		"module M where { class C a where { m :: a } ; f = m }":                                           2,
		"module M where { class C a where { m :: a -> a } ; instance C Int where { m x = 'a' } ; f = 1 }": 2,
	} {
		list := modulesOf(t, text)
		if got := impl.InferProgram(list).Code; got != code {
			t.Errorf("%s: the code is %d", text, got)
		}
		checkNoCore(t, text, list, "M.f")
	}
}

func TestNoCoreWithoutMain(t *testing.T) {
	const text = "module M where { class C a where { m :: a -> Int } ; class C a => D a where { } ; instance C Int where { m x = h where { h = x } } ; data T = A | B Int ; f x = g x where { g y = y } } module N where { f = 1 }"
	list := modulesOf(t, text)
	for _, main := range []string{"M.f", "N.f", "M.m", "super:M.D:M.C", "inst:M.C:Int"} {
		got := checkSugar(t, list, main)
		last := got.Kids[len(got.Kids)-1]
		if !impl.SameCore(last, coreVar(main)) || !slices.Equal(got.Names, []string{"M.m", "super:M.D:M.C", "inst:M.C:Int", "M.f", "N.f", "primAppend", "negate"}) {
			t.Errorf("%s: is %s of %q", main, impl.FormatCore(last), got.Names)
		}
	}
	for _, main := range []string{"", "f", "M.", "M.g", "g", "h", "x", "y", ".f", "M.f ", " M.f", "M.F", "m.f", "N.g", "M.A", "M.B", "A", "M.T", "M.C", "dict:M.C", "m:M.m", "inst:M.C:M.T", "inst:M.D:Int", "super:M.C:M.D", "#1.1", "@1", "@2", "primAppend", "negate", "primAdd", "primError", "True", ":", "[]", "M", "M.f\x00", "\xff"} {
		checkNoCore(t, main, list, main)
	}
	for _, list := range [][]impl.Node{nil, {}, modulesOf(t, "module M where { }"), modulesOf(t, "module M where { data T = A }")} {
		for _, main := range []string{"", "M.f", "primAppend", "negate", "M.A"} {
			checkNoCore(t, main, list, main)
		}
	}
	// A program whose things are those of classes alone.
	for _, main := range []string{"M.m", "inst:M.C:Int"} {
		if isZeroCore(checkSugar(t, modulesOf(t, "module M where { class C a where { m :: a } ; instance C Int where { m = 1 } }"), main)) {
			t.Errorf("%s has no term", main)
		}
	}
}

// Trees that are no modules, or come back to themselves.
func TestNoCoreOfStrangeLists(t *testing.T) {
	good := parsed(t, "module M where { f = 1 }")
	for _, kind := range allKinds() {
		kids := make([]impl.Node, 2)
		for i := range kids {
			kids[i] = impl.Node{Kind: kind, Name: "M", Kids: kids}
		}
		for _, list := range [][]impl.Node{kids, {good, kids[0]}, {kids[1], good}, {plainTrees()[kind], good}} {
			if kind == impl.DModule && list[0].Kind == kind && len(list[0].Kids) == 1 {
				continue
			}
			checkNoCore(t, strconv.FormatInt(kind, 10), list, "M.f")
		}
	}
	checkNoCore(t, "no kind", []impl.Node{{}}, "M.f")
	checkNoCore(t, "two of a name", []impl.Node{good, good}, "M.f")
	checkNoCore(t, "a clause alone", good.Kids[1:], "M.f")
	checkNoCore(t, "too deep", []impl.Node{deepTree(300, good)}, "M.f")
	if isZeroCore(checkSugar(t, []impl.Node{good}, "M.f")) {
		t.Error("a good module has no term")
	}
}

// A patternForm has a pattern of which the holes may be any; each name of it has a mark of its own.
type patternForm struct {
	text  string
	holes int
}

func outerForms() []patternForm {
	return []patternForm{{"N@?", 1}, {"!?", 1}, {"~?", 1}, {"(B ? ?)", 2}, {"(C ?)", 1}, {"(? : ?)", 2}, {"(?, ?)", 2}, {"(_, ?, N)", 1}, {"[?]", 1}, {"[?, ?]", 2}}
}

func innerForms() []patternForm {
	return []patternForm{{"N", 0}, {"_", 0}, {"A", 0}, {"True", 0}, {"3", 0}, {"(-4)", 0}, {"'c'", 0}, {"\"\"", 0}, {"\"de\"", 0}, {"[]", 0}, {"()", 0}}
}

// filledForms has all forms of so many levels; at the first hole each form, at others one by turns.
func filledForms(levels int) []string {
	var texts []string
	for _, f := range innerForms() {
		texts = append(texts, f.text)
	}
	if levels == 1 {
		return texts
	}
	below := filledForms(levels - 1)
	for k, f := range outerForms() {
		for i, text := range below {
			own := strings.Replace(f.text, "?", text, 1)
			texts = append(texts, strings.Replace(own, "?", below[(i*7+k)%len(below)], 1))
		}
	}
	return texts
}

// withNames gives each N a name of its own.
func withNames(text string) string {
	for i := 1; strings.Contains(text, "N"); i++ {
		text = strings.Replace(text, "N", "x"+strconv.Itoa(i), 1)
	}
	return text
}

// Each pattern stands in each other one, of a thing, a lambda, an alternative and a generator, ahead of another pattern and behind one.
func TestCoreOfPatternsInEachOther(t *testing.T) {
	t.Parallel()
	typed := 0
	for _, form := range filledForms(3) {
		text := "data D a b = A | B a b | C a ; f " + withNames(form+" 7 "+form) + " = 1 ; f _ _ _ = 2 ; g = (\\ " + withNames(form) + " -> 1, \\ x -> case x of { " + withNames(form) + " -> 1 }, \\ x -> [1 | " + withNames(form) + " <- x, True])"
		list := []impl.Node{impl.ParseText("module M where { " + text + " }").Tree}
		if impl.InferProgram(list).Code != 0 {
			continue
		}
		typed++
		if isZeroCore(checkSugar(t, list, "M.f")) {
			t.Errorf("%s has no term", form)
		}
	}
	if typed < 500 {
		t.Errorf("%d have a type", typed)
	}
}
