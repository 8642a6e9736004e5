package tests

import (
	"math/rand/v2"
	"strings"
	"testing"

	"loop.example/g00017/impl"
)

// checkPrinted reads a text at a place, and compares what is printed of it there.
func checkPrinted(t *testing.T, p place, rows [][2]string) {
	t.Helper()
	for _, row := range rows {
		got := impl.Print(parsed(t, p.ahead+row[0]+p.behind))
		if want := p.ahead + row[1] + p.behind; got != want {
			t.Errorf("%q is printed as\n%s, not\n%s", row[0], got, want)
		}
	}
}

func TestPrintModules(t *testing.T) {
	checkPrinted(t, inWhole(), [][2]string{
		{"module M where", "module M where { }"}, {"module M()where{;}", "module M ( ) where { }"}, {"module M(f,T,(+),(:))where", "module M ( f , T , ( + ) , ( : ) ) where { }"}, {"module M where\nimport A\nimport B()\nimport C(x,(!))\nx=1", "module M where { import A ; import B ( ) ; import C ( x , ( ! ) ) ; x = 1 }"},
	})
	checkPrinted(t, inTop(), [][2]string{
		{"infix 0 +", "infix 0 +"}, {"infixr 5 :,`f`,`C`,!,-", "infixr 5 : , ` f ` , ` C ` , ! , -"}, {"data T=C", "data T = C"}, {"data T a=C(T a)[a](a,a)|D()deriving()", "data T a = C ( T a ) [ a ] ( a , a ) | D ( )"}, {"data T=C deriving(Eq,Ord)", "data T = C deriving ( Eq , Ord )"}, {"data T=C(a->b)((a))", "data T = C ( a -> b ) a"},
		{"class K a where{}", "class K a where { }"}, {"class E a=>K a where{m,(+)::a;n::()=>a}", "class ( E a ) => K a where { m , ( + ) :: a ; n :: a }"}, {"class()=>K a where{}", "class K a where { }"},
		{"instance K T where{}", "instance K T where { }"}, {"instance(E a,F b)=>K(a->b)where{f=x;x+y=z}", "instance ( E a , F b ) => K ( a -> b ) where { f = x ; ( + ) x y = z }"}, {"instance K[a]where{}", "instance K [ a ] where { }"}, {"instance K(a,b)where{}", "instance K ( a , b ) where { }"}, {"instance K((a))where{}", "instance K a where { }"},
		{"f,(+)::E a=>a->b", "f , ( + ) :: ( E a ) => a -> b"}, {"f::a->b->c", "f :: a -> ( b -> c )"}, {"f::(a->b)->c", "f :: ( a -> b ) -> c"}, {"f::T a", "f :: T a"}, {"f::[T a]", "f :: [ ( T a ) ]"}, {"f::(T a,a->b,[a],())", "f :: ( ( T a ) , ( a -> b ) , [ a ] , ( ) )"}, {"f::(T a)b", "f :: ( T a ) b"}, {"f::()", "f :: ( )"},
		{"x`f`y=z", "f x y = z"}, {"x+y=z", "( + ) x y = z"}, {"f|a=b|c=d where{e=g}", "f | a = b | c = d where { e = g }"}, {"f=x where{}", "f = x"}, {"f=x y where{g=1;infix 1 +}", "f = ( x y ) where { g = 1 ; infix 1 + }"}, {"f|a b=c d", "f | ( a b ) = ( c d )"},
	})
}

func TestPrintPatterns(t *testing.T) {
	rows := [][3]string{ // the pattern, by itself, and as a kid
		{"x", "x", "x"}, {"_", "_", "_"}, {"C", "C", "C"}, {"1", "1", "1"}, {"'\\''", "'\\''", "'\\''"}, {"\"a\\\"\\n\"", "\"a\\\"\\n\"", "\"a\\\"\\n\""}, {"()", "( )", "( )"}, {"(x,C y)", "( x , ( C y ) )", "( x , ( C y ) )"}, {"[]", "[ ]", "[ ]"}, {"[x,-1]", "[ x , ( - 1 ) ]", "[ x , ( - 1 ) ]"},
		{"-1", "- 1", "( - 1 )"}, {"C x(D y)", "C x ( D y )", "( C x ( D y ) )"}, {"x@_", "x @ _", "( x @ _ )"}, {"x@(C y)", "x @ ( C y )", "( x @ ( C y ) )"}, {"~x", "~ x", "( ~ x )"}, {"!(-1)", "! ( - 1 )", "( ! ( - 1 ) )"}, {"~ ~x", "~ ( ~ x )", "( ~ ( ~ x ) )"}, {"x:C y`D`-1", "x : ( C y ) ` D ` ( - 1 )", "( x : ( C y ) ` D ` ( - 1 ) )"}, {"(x:y):z", "( x : y ) : z", "( ( x : y ) : z )"},
	}
	alternative := place{"module M where { x = ( case a of { ", " -> b } ) }", nil}
	for _, row := range rows {
		checkPrinted(t, alternative, [][2]string{{row[0], row[1]}})
		checkPrinted(t, inApat(), [][2]string{{"(" + row[0] + ")", row[2]}})
		checkPrinted(t, inExp(), [][2]string{{"\\(" + row[0] + ")->a", "( \\ " + row[2] + " -> a )"}, {"[a| " + row[0] + " <-b]", "[ a | " + row[2] + " <- b ]"}})
		checkPrinted(t, alternative, [][2]string{{"(a,(" + row[0] + "))", "( a , " + row[2] + " )"}, {"[" + row[0] + "]", "[ " + row[2] + " ]"}, {"C(" + row[0] + ")", "C " + row[2]}, {"a:(" + row[0] + ")", "a : " + row[2]}, {"a@(" + row[0] + ")", "a @ " + row[2]}})
	}
}

func TestPrintExpressions(t *testing.T) {
	rows := [][2]string{ // the expression, and as a kid
		{"x", "x"}, {"C", "C"}, {"(+)", "( + )"}, {"(:)", "( : )"}, {"(!)", "( ! )"}, {"(-)", "( - )"}, {"12", "12"}, {"'\"'", "'\"'"}, {"\"'\\\\\"", "\"'\\\\\""}, {"()", "( )"}, {"(a,b c)", "( a , ( b c ) )"}, {"[]", "[ ]"}, {"[a,b c]", "[ a , ( b c ) ]"}, {"[a..b c]", "[ a .. ( b c ) ]"}, {"[a b|c<-d e,f g]", "[ ( a b ) | c <- ( d e ) , ( f g ) ]"},
		{"(a+)", "( a + )"}, {"(a b`f`)", "( ( a b ) ` f ` )"}, {"(:a)", "( : a )"}, {"(`C`a b)", "( ` C ` ( a b ) )"}, {"f a(g b)", "( f a ( g b ) )"}, {"\\a->b c", "( \\ a -> ( b c ) )"}, {"let{}in a", "( let { } in a )"}, {"let{a=b c;d=e}in f g", "( let { a = ( b c ) ; d = e } in ( f g ) )"}, {"if a b then c else d", "( if ( a b ) then c else d )"},
		{"case a b of{c->d e;C f|g->h where{i=j}}", "( case ( a b ) of { c -> ( d e ) ; C f | g -> h where { i = j } } )"}, {"-a b", "( - ( a b ) )"}, {"a+b`f`c:d!e~g-h", "( a + b ` f ` c : d ! e ~ g - h )"}, {"a b+ -c", "( ( a b ) + ( - c ) )"}, {"(a+b)*c", "( ( a + b ) * c )"},
	}
	for _, row := range rows {
		for _, p := range [][2]string{{"#", "#"}, {"(#)", "#"}, {"((#),a)", "( # , a )"}, {"[a,#]", "[ a , # ]"}, {"[#..a]", "[ # .. a ]"}, {"[#|a]", "[ # | a ]"}, {"[a|#]", "[ a | # ]"}, {"[a|b<-#]", "[ a | b <- # ]"}, {"((#)+)", "( # + )"}, {"(+(#))", "( + # )"}, {"f(#)", "( f # )"}, {"(#)a", "( # a )"}, {"\\a->#", "( \\ a -> # )"}, {"let{}in #", "( let { } in # )"},
			{"if # then # else #", "( if # then # else # )"}, {"case # of{a->#;b|#->#}", "( case # of { a -> # ; b | # -> # } )"}, {"-(#)", "( - # )"}, {"(#)+(#)", "( # + # )"}} {
			checkPrinted(t, inExp(), [][2]string{{strings.ReplaceAll(p[0], "#", " "+row[0]+" "), strings.ReplaceAll(p[1], "#", row[1])}})
		}
		checkPrinted(t, inTop(), [][2]string{{"f | " + row[0] + " = " + row[0], "f | " + row[1] + " = " + row[1]}})
	}
}

// Of what is no module, or has a fault, nothing is printed.
func TestPrintNothing(t *testing.T) {
	plain := plainTrees()
	for _, kind := range allKinds() {
		if got := impl.Print(plain[kind]); (got == "") == (kind == impl.DModule) {
			t.Errorf("%s is printed as %q", kinded(plain[kind]), got)
		}
	}
	all, one := tree(impl.DNames, "all"), tree(impl.NNum, "1")
	clause := func(e impl.Node) impl.Node { return tree(impl.DClause, "x", tree(impl.NRhs, "", e)) }
	for _, n := range []impl.Node{{}, tree(impl.DModule, "M"), tree(impl.DModule, "m", all), tree(impl.DModule, "", all), tree(impl.DModule, "M", all, all), tree(impl.DModule, "M", all, clause(one), plain[impl.DImport]), tree(impl.DModule, "M", all, clause(tree(impl.NNum, "01"))), tree(99, "M", all),
		tree(impl.DModule, "M", all, clause(deepTree(impl.MaxDeep-2, one))), tree(impl.DModule, "M", all, clause(wideTree(impl.MaxNodes-3))), tree(impl.DModule, "M", all, clause(tree(impl.NTuple, "", one)))} {
		if got := impl.Print(n); got != "" {
			t.Errorf("%.100s is printed as %.100q", kinded(n), got)
		}
	}
	for _, n := range []impl.Node{tree(impl.DModule, "M", all, clause(deepTree(impl.MaxDeep-3, one))), tree(impl.DModule, "M", all, clause(wideTree(impl.MaxNodes-4)))} {
		if impl.NodeFault(n) != 0 {
			t.Errorf("%.100s has a fault", kinded(n))
		}
		checkReadBack(t, n)
	}
}

// A treeMaker makes trees without fault, those that no text gives among them.
type treeMaker struct{ *rand.Rand }

func (m treeMaker) one(texts ...string) string { return texts[m.IntN(len(texts))] }

func (m treeMaker) some(least int, deep int, make func(int) impl.Node) []impl.Node {
	var nodes []impl.Node
	for range least + m.IntN(3) {
		nodes = append(nodes, make(deep-1))
	}
	return nodes
}

func (m treeMaker) variable() string    { return m.one("x", "y'", "+", "-", "!", "~", "_z") }
func (m treeMaker) constructor() string { return m.one("C", "D'", ":", ":+") }
func (m treeMaker) anyName() string     { return m.one(m.variable(), m.constructor()) }

func (m treeMaker) names() impl.Node {
	return tree(impl.DNames, "", m.some(0, 1, func(int) impl.Node { return tree(impl.DItem, m.anyName()) })...)
}

func (m treeMaker) context() impl.Node {
	return tree(impl.DContext, "", m.some(0, 1, func(int) impl.Node {
		return tree(impl.TApp, "", tree(impl.TCon, m.one("E", "F")), tree(impl.TVar, m.one("a", "b")))
	})...)
}

func (m treeMaker) typ(deep int) impl.Node {
	choice := m.IntN(6)
	if deep <= 0 {
		choice %= 2
	}
	switch choice {
	case 0:
		return tree(impl.TVar, m.one("a", "b"))
	case 1:
		return tree(impl.TCon, m.one("T", "Int"))
	case 2:
		return tree(impl.TApp, "", m.some(2, deep, m.typ)...)
	case 3:
		return tree(impl.TFun, "", m.typ(deep-1), m.typ(deep-1))
	case 4:
		return tree(impl.TTuple, "", m.some(2, deep, m.typ)...)
	}
	return tree(impl.TList, "", m.typ(deep-1))
}

func (m treeMaker) pattern(deep int) impl.Node {
	choice := m.IntN(14)
	if deep <= 0 {
		choice %= 8
	}
	switch choice {
	case 0:
		return tree(impl.PVar, m.one("x", "y"))
	case 1:
		return tree(impl.PWild, "")
	case 2:
		return tree(impl.PCon, m.constructor())
	case 3:
		return tree(impl.PNum, m.one("0", "1", "-1", "-20"))
	case 4:
		return tree(impl.PChar, m.one("a", "'", "\n", "\\"))
	case 5:
		return tree(impl.PStr, m.one("", "a", "\"\\\n'"))
	case 6:
		return tree(impl.PTuple, "")
	case 7:
		return tree(impl.PList, "")
	case 8:
		return tree(impl.PCon, m.constructor(), m.some(1, deep, m.pattern)...)
	case 9:
		return tree(impl.PTuple, "", m.some(2, deep, m.pattern)...)
	case 10:
		return tree(impl.PAs, m.one("x", "y"), m.pattern(deep-1))
	case 11:
		return tree([]int64{impl.PLazy, impl.PBang}[m.IntN(2)], "", m.pattern(deep-1))
	case 12:
		return tree(impl.PList, "", m.some(1, deep, m.pattern)...)
	}
	return tree(impl.POps, "", m.turns(deep, m.pattern, func() impl.Node { return tree(impl.PCon, m.constructor()) })...)
}

func (m treeMaker) turns(deep int, side func(int) impl.Node, between func() impl.Node) []impl.Node {
	nodes := []impl.Node{side(deep - 1)}
	for range 1 + m.IntN(3) {
		nodes = append(nodes, between(), side(deep-1))
	}
	return nodes
}

func (m treeMaker) expression(deep int) impl.Node {
	choice := m.IntN(20)
	if deep <= 0 {
		choice %= 7
	}
	switch choice {
	case 0:
		return tree(impl.NVar, m.variable())
	case 1:
		return tree(impl.NCon, m.constructor())
	case 2:
		return tree(impl.NNum, m.one("0", "7", "10"))
	case 3:
		return tree(impl.NChar, m.one("a", "'", "\n", "\\", "\""))
	case 4:
		return tree(impl.NStr, m.one("", "a", "\"\\\n'"))
	case 5:
		return tree(impl.NTuple, "")
	case 6:
		return tree(impl.NList, "")
	case 7:
		return tree(impl.NApp, "", m.some(2, deep, m.expression)...)
	case 8:
		return tree(impl.NLam, "", append(m.some(1, deep, m.pattern), m.expression(deep-1))...)
	case 9:
		return tree(impl.NLet, "", append(m.some(0, deep, m.declaration), m.expression(deep-1))...)
	case 10:
		return tree(impl.NIf, "", m.expression(deep-1), m.expression(deep-1), m.expression(deep-1))
	case 11:
		return tree(impl.NCase, "", append([]impl.Node{m.expression(deep - 1)}, m.some(1, deep, m.alternative)...)...)
	case 12:
		return tree(impl.NTuple, "", m.some(2, deep, m.expression)...)
	case 13:
		return tree(impl.NList, "", m.some(1, deep, m.expression)...)
	case 14:
		return tree(impl.NRange, "", m.expression(deep-1), m.expression(deep-1))
	case 15:
		return tree(impl.NComp, "", append([]impl.Node{m.expression(deep - 1)}, m.some(1, deep, m.qualifier)...)...)
	case 16:
		return tree(impl.NLeft, m.anyName(), m.expression(deep-1))
	case 17:
		return tree(impl.NRight, m.anyName(), m.expression(deep-1))
	case 18:
		return tree(impl.NNeg, "", m.expression(deep-1))
	}
	return tree(impl.NOps, "", m.turns(deep, m.expression, func() impl.Node {
		if m.IntN(2) == 0 {
			return tree(impl.NVar, m.variable())
		}
		return tree(impl.NCon, m.constructor())
	})...)
}

func (m treeMaker) qualifier(deep int) impl.Node {
	if m.IntN(2) == 0 {
		return tree(impl.NTest, "", m.expression(deep-1))
	}
	return tree(impl.NGen, "", m.pattern(deep-1), m.expression(deep-1))
}

func (m treeMaker) alternative(deep int) impl.Node {
	return tree(impl.NAlt, "", m.pattern(deep-1), m.rightSide(deep-1))
}

func (m treeMaker) rightSide(deep int) impl.Node {
	bodies := []impl.Node{m.expression(deep - 1)}
	if m.IntN(2) == 0 {
		bodies = m.some(1, deep, func(deep int) impl.Node {
			return tree(impl.NGuard, "", m.expression(deep-1), m.expression(deep-1))
		})
	}
	if deep > 0 {
		bodies = append(bodies, m.some(0, deep, m.declaration)...)
	}
	return tree(impl.NRhs, "", bodies...)
}

func (m treeMaker) clause(deep int) impl.Node {
	return tree(impl.DClause, m.variable(), append(m.some(0, deep, m.pattern), m.rightSide(deep-1))...)
}

func (m treeMaker) signature(deep int) impl.Node {
	return tree(impl.DSig, "", m.names(), m.context(), m.typ(deep-1))
}

func (m treeMaker) declaration(deep int) impl.Node {
	switch m.IntN(4) {
	case 0:
		return m.signature(deep)
	case 1:
		return tree(impl.DFix, m.one("infix", "infixl", "infixr"), tree(impl.NNum, m.one("0", "9")), m.names())
	}
	return m.clause(deep)
}

func (m treeMaker) top(deep int) impl.Node {
	switch m.IntN(6) {
	case 0:
		constructors := m.some(1, deep, func(deep int) impl.Node { return tree(impl.DConstr, "C", m.some(0, deep, m.typ)...) })
		return tree(impl.DData, "T", append(append([]impl.Node{m.names()}, constructors...), m.names())...)
	case 1:
		return tree(impl.DClass, "K", append([]impl.Node{m.context(), tree(impl.TVar, "a")}, m.some(0, deep, m.signature)...)...)
	case 2:
		return tree(impl.DInst, "K", append([]impl.Node{m.context(), m.typ(deep - 1)}, m.some(0, deep, m.clause)...)...)
	}
	return m.declaration(deep)
}

func (m treeMaker) module(deep int) impl.Node {
	kids := []impl.Node{tree(impl.DNames, "all")}
	if m.IntN(2) == 0 {
		kids[0] = m.names()
	}
	kids = append(kids, m.some(0, deep, func(int) impl.Node {
		if m.IntN(2) == 0 {
			return tree(impl.DImport, "A")
		}
		return tree(impl.DImport, "B", m.names())
	})...)
	return tree(impl.DModule, "M", append(kids, m.some(0, deep, m.top)...)...)
}

// Trees that no text gives are printed by the same words.
func TestPrintAnyTree(t *testing.T) {
	m := treeMaker{rand.New(rand.NewPCG(5, 4))}
	for round := range 6000 {
		n := m.module(2 + round%5)
		if fault := impl.NodeFault(n); fault != 0 {
			t.Fatalf("%s has fault %d", kinded(n), fault)
		}
		if got, want := impl.Print(n), printSlowly(n); got != want {
			t.Fatalf("%s\nis printed as %s\nnot as        %s", kinded(n), got, want)
		}
		if read := impl.Lex(impl.Print(n)); read.Code != 0 || impl.SpellAll(read.Tokens) != impl.Print(n) {
			t.Fatalf("%s\nis not of tokens with one blank between", impl.Print(n))
		}
	}
}

// What is printed is as long as it is: just as many bytes as a text may have are read back, one more is code 15.
func TestPrintAtMostSource(t *testing.T) {
	for over := range 2 {
		const frame = "module M where { x =  }"
		name := strings.Repeat("a", impl.MaxSource-len(frame)+over)
		n := tree(impl.DModule, "M", tree(impl.DNames, "all"), tree(impl.DClause, "x", tree(impl.NRhs, "", tree(impl.NVar, name))))
		text := impl.Print(n)
		if len(text) != impl.MaxSource+over {
			t.Fatalf("%d bytes", len(text))
		}
		if got := impl.ParseText(text); got.Code != int64(15*over) || over == 0 && !impl.SameNode(got.Tree, n) {
			t.Errorf("%d bytes: code %d", len(text), got.Code)
		}
	}
	wide := parsed(t, "module M where { x = ["+strings.Repeat("1,", 19990)+"1] }")
	if got := impl.Print(wide); len(got) <= impl.MaxSource || impl.ParseText(got).Code != 15 {
		t.Errorf("%d bytes are read", len(got))
	}
}

// What is printed and read again is printed the same way, from texts with layout too.
func TestPrintedModulesAreReadBack(t *testing.T) {
	for _, text := range append(severalModules(), someModules()...) {
		n := parsed(t, text)
		if again := impl.Print(parsed(t, impl.Print(n))); again != impl.Print(n) {
			t.Errorf("%q is printed another way the second time", text)
		}
	}
}
