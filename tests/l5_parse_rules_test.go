package tests

import (
	"strings"
	"testing"

	"loop.example/g00017/impl"
)

func moduleRows() [][2]string {
	return [][2]string{
		{"module M where { }", "DModule:M(DNames:all)"},
		{"module M' ( ) where { }", "DModule:M'(DNames)"},
		{"module M ( f ) where { }", "DModule:M(DNames(DItem:f))"},
		{"module M ( f , T , ( + ) , ( :+ ) , ( ! ) , ( ~ ) , ( - ) ) where { }", "DModule:M(DNames(DItem:f DItem:T DItem:+ DItem::+ DItem:! DItem:~ DItem:-))"},
		{"module M where { import A ; import B ( ) ; x = 1 ; infix 0 + }", "DModule:M(DNames:all DImport:A DImport:B(DNames) DClause:x(NRhs(NNum:1)) DFix:infix(NNum:0 DNames(DItem:+)))"},
		{"module M where { ; ; x = 1 ; ; ; y = 2 ; }", "DModule:M(DNames:all DClause:x(NRhs(NNum:1)) DClause:y(NRhs(NNum:2)))"},
		{"module M where { ; }", "DModule:M(DNames:all)"},
	}
}

func topRows() [][2]string {
	return [][2]string{
		{"import A", "DImport:A"}, {"import A ( )", "DImport:A(DNames)"}, {"import A ( x , T , ( ++ ) , ( : ) )", "DImport:A(DNames(DItem:x DItem:T DItem:++ DItem::))"},
		{"data T = C", "DData:T(DNames DConstr:C DNames)"},
		{"data T a b' = C | D a ( T a ) [ b ] | E ( )", "DData:T(DNames(DItem:a DItem:b') DConstr:C DConstr:D(TVar:a TApp(TCon:T TVar:a) TList(TVar:b)) DConstr:E(TTuple) DNames)"},
		{"data T = C deriving ( )", "DData:T(DNames DConstr:C DNames)"},
		{"data T a = C a deriving ( Eq , Show )", "DData:T(DNames(DItem:a) DConstr:C(TVar:a) DNames(DItem:Eq DItem:Show))"},
		{"class K a where { }", "DClass:K(DContext TVar:a)"},
		{"class E a => K a where { ; m , ( + ) :: a ; n :: K b => b }", "DClass:K(DContext(TApp(TCon:E TVar:a)) TVar:a DSig(DNames(DItem:m DItem:+) DContext TVar:a) DSig(DNames(DItem:n) DContext(TApp(TCon:K TVar:b)) TVar:b))"},
		{"class ( ) => K a where { }", "DClass:K(DContext TVar:a)"},
		{"class ( E a , F b ) => K a where { }", "DClass:K(DContext(TApp(TCon:E TVar:a) TApp(TCon:F TVar:b)) TVar:a)"},
		{"instance K T where { }", "DInst:K(DContext TCon:T)"}, {"instance K a where { }", "DInst:K(DContext TVar:a)"},
		{"instance K a => K [ a ] where { m x = x ; ; x + y = x }", "DInst:K(DContext(TApp(TCon:K TVar:a)) TList(TVar:a) DClause:m(PVar:x NRhs(NVar:x)) DClause:+(PVar:x PVar:y NRhs(NVar:x)))"},
		{"instance ( K a , E b ) => K ( a -> b ) where { ( + ) = f }", "DInst:K(DContext(TApp(TCon:K TVar:a) TApp(TCon:E TVar:b)) TFun(TVar:a TVar:b) DClause:+(NRhs(NVar:f)))"},
		{"infix 0 +", "DFix:infix(NNum:0 DNames(DItem:+))"}, {"infixl 9 `f` , : , ! , ~ , `C`", "DFix:infixl(NNum:9 DNames(DItem:f DItem:: DItem:! DItem:~ DItem:C))"}, {"infixr 5 -", "DFix:infixr(NNum:5 DNames(DItem:-))"},
		{"f :: a", "DSig(DNames(DItem:f) DContext TVar:a)"}, {"f , ( + ) , ( : ) , ( ! ) :: a", "DSig(DNames(DItem:f DItem:+ DItem:: DItem:!) DContext TVar:a)"}, {"( ~ ) :: a", "DSig(DNames(DItem:~) DContext TVar:a)"},
		{"f :: E a => a", "DSig(DNames(DItem:f) DContext(TApp(TCon:E TVar:a)) TVar:a)"}, {"f :: ( ) => a", "DSig(DNames(DItem:f) DContext TVar:a)"}, {"f :: ( E a ) => T", "DSig(DNames(DItem:f) DContext(TApp(TCon:E TVar:a)) TCon:T)"},
	}
}

func clauseRows() [][2]string {
	return [][2]string{
		{"f = 1", "DClause:f(NRhs(NNum:1))"}, {"f x _ = 1", "DClause:f(PVar:x PWild NRhs(NNum:1))"}, {"( + ) x y = 1", "DClause:+(PVar:x PVar:y NRhs(NNum:1))"}, {"( ! ) = 1", "DClause:!(NRhs(NNum:1))"}, {"( ~ ) ~ x = 1", "DClause:~(PLazy(PVar:x) NRhs(NNum:1))"}, {"( - ) = 1", "DClause:-(NRhs(NNum:1))"},
		{"x + y = 1", "DClause:+(PVar:x PVar:y NRhs(NNum:1))"}, {"x - 1 = 2", "DClause:-(PVar:x PNum:1 NRhs(NNum:2))"}, {"x `f` y = 1", "DClause:f(PVar:x PVar:y NRhs(NNum:1))"}, {"A `f` [ ] = 1", "DClause:f(PCon:A PList NRhs(NNum:1))"},
		{"( x : y ) ++ z = 1", "DClause:++(POps(PVar:x PCon:: PVar:y) PVar:z NRhs(NNum:1))"}, {"( C x ) + _ = 1", "DClause:+(PCon:C(PVar:x) PWild NRhs(NNum:1))"}, {"~ x + ! y = 1", "DClause:+(PLazy(PVar:x) PBang(PVar:y) NRhs(NNum:1))"},
		{"_ + 'c' = 1", "DClause:+(PWild PChar:c NRhs(NNum:1))"}, {"\"s\" + 1 = 1", "DClause:+(PStr:s PNum:1 NRhs(NNum:1))"}, {"! x@y `f` z = 1", "DClause:f(PBang(PAs:x(PVar:y)) PVar:z NRhs(NNum:1))"},
		{"f ! x = 1", "DClause:f(PBang(PVar:x) NRhs(NNum:1))"}, {"f ~ x = 1", "DClause:f(PLazy(PVar:x) NRhs(NNum:1))"}, {"f x@( C y ) = 1", "DClause:f(PAs:x(PCon:C(PVar:y)) NRhs(NNum:1))"},
		{"f | a = 1", "DClause:f(NRhs(NGuard(NVar:a NNum:1)))"}, {"f x | a = 1 | b = 2", "DClause:f(PVar:x NRhs(NGuard(NVar:a NNum:1) NGuard(NVar:b NNum:2)))"},
		{"f = 1 where { }", "DClause:f(NRhs(NNum:1))"}, {"f = 1 where { g = 2 ; infix 1 + ; h :: a }", "DClause:f(NRhs(NNum:1 DClause:g(NRhs(NNum:2)) DFix:infix(NNum:1 DNames(DItem:+)) DSig(DNames(DItem:h) DContext TVar:a)))"},
		{"f | a = 1 where { g = 2 where { h = 3 } }", "DClause:f(NRhs(NGuard(NVar:a NNum:1) DClause:g(NRhs(NNum:2 DClause:h(NRhs(NNum:3))))))"},
	}
}

func typeRows() [][2]string {
	return [][2]string{
		{"T", "TCon:T"}, {"a", "TVar:a"}, {"( )", "TTuple"}, {"( a )", "TVar:a"}, {"( ( a ) )", "TVar:a"}, {"( a , b )", "TTuple(TVar:a TVar:b)"}, {"( a , ( b , c ) , d )", "TTuple(TVar:a TTuple(TVar:b TVar:c) TVar:d)"},
		{"[ a ]", "TList(TVar:a)"}, {"[ a -> b ]", "TList(TFun(TVar:a TVar:b))"}, {"T a ( ) [ b ]", "TApp(TCon:T TVar:a TTuple TList(TVar:b))"}, {"( T a ) b", "TApp(TApp(TCon:T TVar:a) TVar:b)"}, {"( T a b )", "TApp(TCon:T TVar:a TVar:b)"},
		{"a -> b -> c", "TFun(TVar:a TFun(TVar:b TVar:c))"}, {"( a -> b ) -> c", "TFun(TFun(TVar:a TVar:b) TVar:c)"}, {"T a -> T b", "TFun(TApp(TCon:T TVar:a) TApp(TCon:T TVar:b))"}, {"( a -> b , T c )", "TTuple(TFun(TVar:a TVar:b) TApp(TCon:T TVar:c))"},
	}
}

func patternRows() [][2]string {
	return [][2]string{
		{"x", "PVar:x"}, {"_", "PWild"}, {"C", "PCon:C"}, {"0", "PNum:0"}, {"'c'", "PChar:c"}, {"\"s\"", "PStr:s"}, {"( )", "PTuple"}, {"( x )", "PVar:x"}, {"( ( C x ) )", "PCon:C(PVar:x)"}, {"( x , y )", "PTuple(PVar:x PVar:y)"}, {"( x , - 1 , C y )", "PTuple(PVar:x PNum:-1 PCon:C(PVar:y))"},
		{"[ ]", "PList"}, {"[ x ]", "PList(PVar:x)"}, {"[ x , C y , z : u ]", "PList(PVar:x PCon:C(PVar:y) POps(PVar:z PCon:: PVar:u))"}, {"~ x", "PLazy(PVar:x)"}, {"! x", "PBang(PVar:x)"}, {"~ ! x", "PLazy(PBang(PVar:x))"}, {"! ( C x )", "PBang(PCon:C(PVar:x))"},
		{"x @ y", "PAs:x(PVar:y)"}, {"x @ y @ ( C z )", "PAs:x(PAs:y(PCon:C(PVar:z)))"}, {"x @ ~ _", "PAs:x(PLazy(PWild))"},
		{"C x ( D y ) z @ _ ~ u", "PCon:C(PVar:x PCon:D(PVar:y) PAs:z(PWild) PLazy(PVar:u))"}, {"C D", "PCon:C(PCon:D)"}, {"- 1", "PNum:-1"}, {"( - 12 )", "PNum:-12"},
		{"x : y", "POps(PVar:x PCon:: PVar:y)"}, {"C x : - 2 :+ D", "POps(PCon:C(PVar:x) PCon:: PNum:-2 PCon::+ PCon:D)"}, {"x `C` y", "POps(PVar:x PCon:C PVar:y)"}, {"( x : y ) : z", "POps(POps(PVar:x PCon:: PVar:y) PCon:: PVar:z)"}, {"C `C` C", "POps(PCon:C PCon:C PCon:C)"},
	}
}

func expressionRows() [][2]string {
	return [][2]string{
		{"x", "NVar:x"}, {"C", "NCon:C"}, {"10", "NNum:10"}, {"'c'", "NChar:c"}, {"\"s\"", "NStr:s"}, {"f x ( g y ) 1", "NApp(NVar:f NVar:x NApp(NVar:g NVar:y) NNum:1)"}, {"C 'c' \"s\" [ ] ( )", "NApp(NCon:C NChar:c NStr:s NList NTuple)"}, {"( f x ) y", "NApp(NApp(NVar:f NVar:x) NVar:y)"},
		{"- 1", "NNeg(NNum:1)"}, {"- f x", "NNeg(NApp(NVar:f NVar:x))"}, {"- 1 + 2", "NOps(NNeg(NNum:1) NVar:+ NNum:2)"}, {"1 - 2", "NOps(NNum:1 NVar:- NNum:2)"}, {"1 - - 2", "NOps(NNum:1 NVar:- NNeg(NNum:2))"}, {"f - 1", "NOps(NVar:f NVar:- NNum:1)"}, {"- ( - 1 )", "NNeg(NNeg(NNum:1))"},
		{"x + y * z", "NOps(NVar:x NVar:+ NVar:y NVar:* NVar:z)"}, {"x : y", "NOps(NVar:x NCon:: NVar:y)"}, {"x ! y ~ z", "NOps(NVar:x NVar:! NVar:y NVar:~ NVar:z)"}, {"x `f` y `C` z", "NOps(NVar:x NVar:f NVar:y NCon:C NVar:z)"}, {"f x + g y", "NOps(NApp(NVar:f NVar:x) NVar:+ NApp(NVar:g NVar:y))"},
		{"\\ x -> y", "NLam(PVar:x NVar:y)"}, {"\\ x ( C y ) ~ z -> x + y", "NLam(PVar:x PCon:C(PVar:y) PLazy(PVar:z) NOps(NVar:x NVar:+ NVar:y))"}, {"x + \\ y -> z * u", "NOps(NVar:x NVar:+ NLam(PVar:y NOps(NVar:z NVar:* NVar:u)))"},
		{"let { } in x", "NLet(NVar:x)"}, {"let { x = 1 ; f :: a ; infixr 3 + } in x + 1", "NLet(DClause:x(NRhs(NNum:1)) DSig(DNames(DItem:f) DContext TVar:a) DFix:infixr(NNum:3 DNames(DItem:+)) NOps(NVar:x NVar:+ NNum:1))"},
		{"if x then y else z + 1", "NIf(NVar:x NVar:y NOps(NVar:z NVar:+ NNum:1))"}, {"if if a then b else c then d else e", "NIf(NIf(NVar:a NVar:b NVar:c) NVar:d NVar:e)"},
		{"case x of { y -> z }", "NCase(NVar:x NAlt(PVar:y NRhs(NVar:z)))"}, {"case x of { ; C y : _ | a -> 1 | b -> 2 where { g = 3 } ; _ -> 4 }", "NCase(NVar:x NAlt(POps(PCon:C(PVar:y) PCon:: PWild) NRhs(NGuard(NVar:a NNum:1) NGuard(NVar:b NNum:2) DClause:g(NRhs(NNum:3)))) NAlt(PWild NRhs(NNum:4)))"},
		{"case x of { _ -> 1 } + 2", "NOps(NCase(NVar:x NAlt(PWild NRhs(NNum:1))) NVar:+ NNum:2)"},
		{"( )", "NTuple"}, {"( x )", "NVar:x"}, {"( ( f x ) )", "NApp(NVar:f NVar:x)"}, {"( x , y )", "NTuple(NVar:x NVar:y)"}, {"( x + 1 , f y , \\ z -> z )", "NTuple(NOps(NVar:x NVar:+ NNum:1) NApp(NVar:f NVar:y) NLam(PVar:z NVar:z))"},
		{"( + )", "NVar:+"}, {"( - )", "NVar:-"}, {"( : )", "NCon::"}, {"( ! )", "NVar:!"}, {"( ~ )", "NVar:~"}, {"( - 1 )", "NNeg(NNum:1)"}, {"( - 1 - )", "NLeft:-(NNeg(NNum:1))"},
		{"( + 1 )", "NRight:+(NNum:1)"}, {"( : x )", "NRight::(NVar:x)"}, {"( ! x )", "NRight:!(NVar:x)"}, {"( ~ x )", "NRight:~(NVar:x)"}, {"( `f` x )", "NRight:f(NVar:x)"}, {"( `C` x + y )", "NRight:C(NOps(NVar:x NVar:+ NVar:y))"}, {"( + - 1 )", "NRight:+(NNeg(NNum:1))"}, {"( + \\ x -> y )", "NRight:+(NLam(PVar:x NVar:y))"},
		{"( 1 + )", "NLeft:+(NNum:1)"}, {"( x - )", "NLeft:-(NVar:x)"}, {"( x : )", "NLeft::(NVar:x)"}, {"( x ! )", "NLeft:!(NVar:x)"}, {"( x ~ )", "NLeft:~(NVar:x)"}, {"( x `f` )", "NLeft:f(NVar:x)"}, {"( f x + y `C` )", "NLeft:C(NOps(NApp(NVar:f NVar:x) NVar:+ NVar:y))"}, {"( ( + ) + )", "NLeft:+(NVar:+)"},
		{"( case x of { _ -> y } + )", "NLeft:+(NCase(NVar:x NAlt(PWild NRhs(NVar:y))))"}, {"( ( x + ) * )", "NLeft:*(NLeft:+(NVar:x))"}, {"( f ( x + ) )", "NApp(NVar:f NLeft:+(NVar:x))"}, {"( x + ( y + ) )", "NOps(NVar:x NVar:+ NLeft:+(NVar:y))"},
		{"[ ]", "NList"}, {"[ x ]", "NList(NVar:x)"}, {"[ x , y + 1 , [ ] ]", "NList(NVar:x NOps(NVar:y NVar:+ NNum:1) NList)"}, {"[ 1 .. x + 1 ]", "NRange(NNum:1 NOps(NVar:x NVar:+ NNum:1))"}, {"[ x | y ]", "NComp(NVar:x NTest(NVar:y))"},
		{"[ x + 1 | y , C z : _ <- f u , z ]", "NComp(NOps(NVar:x NVar:+ NNum:1) NTest(NVar:y) NGen(POps(PCon:C(PVar:z) PCon:: PWild) NApp(NVar:f NVar:u)) NTest(NVar:z))"},
	}
}

func TestRulesOfModules(t *testing.T)     { checkTrees(t, inWhole(), moduleRows()) }
func TestRulesOfTops(t *testing.T)        { checkTrees(t, inTop(), topRows()) }
func TestRulesOfClauses(t *testing.T)     { checkTrees(t, inTop(), clauseRows()) }
func TestRulesOfTypes(t *testing.T)       { checkTrees(t, inType(), typeRows()) }
func TestRulesOfPatterns(t *testing.T)    { checkTrees(t, inPattern(), patternRows()) }
func TestRulesOfExpressions(t *testing.T) { checkTrees(t, inExp(), expressionRows()) }

// Clauses are read in every block as they are at the top.
func TestRulesOfClausesInBlocks(t *testing.T) {
	checkTrees(t, place{"module M where { x = let { ", " } in a }", []int{1, 0, 0, 0}}, clauseRows())
	checkTrees(t, place{"module M where { x = a where { ", " } }", []int{1, 0, 1}}, clauseRows())
	checkTrees(t, place{"module M where { instance K a where { ", " } }", []int{1, 2}}, clauseRows())
}

// Patterns are read alike wherever they may stand; those of one token or in brackets as atoms too.
func TestRulesOfPatternsElsewhere(t *testing.T) {
	checkTrees(t, place{"module M where { x = [ a | ", " <- b ] }", []int{1, 0, 0, 1, 0}}, patternRows())
	checkTrees(t, place{"module M where { f [ ", " ] = a }", []int{1, 0, 0}}, patternRows())
	checkTrees(t, place{"module M where { f ( ", " ) = a }", []int{1, 0}}, patternRows())
	checkTrees(t, place{"module M where { x = \\ ( ", " ) -> a }", []int{1, 0, 0, 0}}, patternRows())
	checkTrees(t, place{"module M where { x = \\ y @ ( ", " ) -> a }", []int{1, 0, 0, 0, 0}}, patternRows())
	for _, row := range patternRows() {
		if len(strings.Fields(row[0])) == 1 {
			checkTrees(t, inApat(), [][2]string{row})
		}
	}
}

// Expressions are read alike wherever they may stand.
func TestRulesOfExpressionsElsewhere(t *testing.T) {
	for _, p := range []place{
		{"module M where { x | ", " = a }", []int{1, 0, 0, 0}}, {"module M where { x | a = ", " }", []int{1, 0, 0, 1}}, {"module M where { x = let { } in ", " }", []int{1, 0, 0, 0}},
		{"module M where { x = case ", " of { _ -> a } }", []int{1, 0, 0, 0}}, {"module M where { x = case a of { _ -> ", " } }", []int{1, 0, 0, 1, 1, 0}}, {"module M where { x = case a of { _ | ", " -> a } }", []int{1, 0, 0, 1, 1, 0, 0}},
		{"module M where { x = if ", " then a else b }", []int{1, 0, 0, 0}}, {"module M where { x = if a then ", " else b }", []int{1, 0, 0, 1}}, {"module M where { x = if a then b else ", " }", []int{1, 0, 0, 2}},
		{"module M where { x = \\ y -> ", " }", []int{1, 0, 0, 1}}, {"module M where { x = ( ", " ) }", []int{1, 0, 0}}, {"module M where { x = ( a , ", " ) }", []int{1, 0, 0, 1}}, {"module M where { x = ( ", " , a ) }", []int{1, 0, 0, 0}},
		{"module M where { x = ( + ", " ) }", []int{1, 0, 0, 0}}, {"module M where { x = [ ", " ] }", []int{1, 0, 0, 0}}, {"module M where { x = [ a , ", " ] }", []int{1, 0, 0, 1}}, {"module M where { x = [ ", " .. a ] }", []int{1, 0, 0, 0}}, {"module M where { x = [ a .. ", " ] }", []int{1, 0, 0, 1}},
		{"module M where { x = [ ", " | a ] }", []int{1, 0, 0, 0}}, {"module M where { x = [ a | ", " , b ] }", []int{1, 0, 0, 1, 0}}, {"module M where { x = [ a | b <- ", " ] }", []int{1, 0, 0, 1, 1}}, {"module M where { x = f ( ", " ) }", []int{1, 0, 0, 1}},
	} {
		checkTrees(t, p, expressionRows())
	}
}

// Types are read alike wherever they may stand.
func TestRulesOfTypesElsewhere(t *testing.T) {
	for _, p := range []place{
		{"module M where { f :: E a => ", " }", []int{1, 2}}, {"module M where { f :: a -> ", " }", []int{1, 2, 1}}, {"module M where { f :: [ ", " ] }", []int{1, 2, 0}}, {"module M where { f :: ( a , ", " ) }", []int{1, 2, 1}},
		{"module M where { data T = C ( ", " ) }", []int{1, 1, 0}}, {"module M where { instance K ( ", " ) where { } }", []int{1, 1}}, {"module M where { class K a where { m :: ", " } }", []int{1, 2, 2}}, {"module M where { x = let { f :: ", " } in a }", []int{1, 0, 0, 0, 2}},
	} {
		checkTrees(t, p, typeRows())
	}
}

func TestTextsThatAreNoModules(t *testing.T) {
	checkCodes(t, 1, inWhole(), "", "x = 1", "module", "module M", "module M where {", "module m where { }", "module M where { } }", "module M where { } x", "module M where { x }", "module M ( where { }", "module M ( f , ) where { }", "module M ( , f ) where { }", "module M ( f g ) where { }", "module M ( 1 ) where { }",
		"module M ( + ) where { }", "module M f where { }", "module M ( ( f ) ) where { }", "module M ( ( + ) where { }", "where { }", "module M M where { }", "module M where { } ;", "module M ( `f` ) where { }", "module M ( _ ) where { }", "module M where { module N where { } }", "module M where ( )")
	checkCodes(t, 1, inTop(), "import", "import a", "import A B", "import A ( x", "import A ( x , )", "import A x", "data", "data t = C", "data T", "data T =", "data T = c", "data T = C |", "data T A = C", "data T = C deriving", "data T = C deriving Eq", "data T = C deriving ( eq )", "data T = C deriving ( Eq , )", "data T = C a -> b", "data T = a : b", "data T = C !a",
		"class K where { }", "class K a", "class K A where { }", "class K a b where { }", "class K a where { m = 1 }", "class K a where { m }", "class K a where { infix 1 + }", "class k a where { }", "class E => K a where { }", "class E a K a where { }", "class E a , F a => K a where { }",
		"instance K where { }", "instance K T", "instance K T a where { }", "instance K a -> b where { }", "instance K T where { m :: a }", "instance K T where { infix 1 + }", "instance ( K a => K T where { }", "instance K [ ] where { }",
		"infix + 1", "infix 1", "infix +", "infix 1 f", "infix 1 `f", "infix 1 ( + )", "infix 1 + ,", "infix 1 + * ", "infixl 1 =", "infix - 1 +", "infix 1 `+`",
		"f ::", "f :: =>", "f , :: a", "f , C :: a", "C :: a", "f :: a ->", "f :: -> a", "f :: a => b", "f :: E a => F a => a", "f :: E ( a ) => a", "f :: ( E a , ) => a", "f :: [ ]", "f :: ( a", "f :: ( a , )", "f :: [ a , b ]", "f :: ( -> )", "f :: a :: b", "f :: 1", "f :: _", "f :: ! a", "( f ) :: a", "`f` :: a", "f , g = 1")
	checkCodes(t, 1, inTop(), "f", "f =", "= 1", "f = 1 2 )", "f x y", "f = = 1", "f | = 1", "f | a", "f | a = 1 |", "f = 1 | a = 2", "f -> 1", "f | a -> 1", "f = 1 where { = }", "f = 1 where { } where { }", "C = 1", "C x = 1", "( x , y ) = 1", "[ x ] = 1", "1 = 2", "f + = 1", "+ f = 1", "- x = 1", "x + y z = 1", "f x + y = 1", "C x + y = 1", "x + C y = 1",
		"x `C` y = 1", "x : y = 1", "x ` y = 1", "x `f y = 1", "x `` y = 1", "( + ) + x = 1", "( ! x ) y = 1", "x @ y + z = 1", "x @ y = 1", "f - 1 - 2 = 3", "( f x ) y = 1", "x + - 1 = 2", "_ = 1", "x = let", "f . = 1", "f @ = 1", "( f ) = 1")
}

func TestPatternsAndExpressionsThatAreNone(t *testing.T) {
	checkCodes(t, 1, inPattern(), "", "+", "x y", "x +", "x + y", ": x", "x :", "x : : y", "- x", "- - 1", "-", "C - 1", "( - 1", "[ x", "( x , )", "( , x )", "[ x , ]", "x @", "@ x", "C @ x", "x @ @ y", "x @ C y", "~", "!", "( ~ )", "( + )", "( : )", "`C` x", "x `f` y", "x `C y", "x ` y", "if", "\\ x", "_ x", "1 2", "x ! y", "[ x .. y ]", "[ x | y ]", "x -> y -> z", "( x : )", "( : x )", "x = y", "- 'c'")
	checkCodes(t, 1, inApat(), "- 1 + ", "+ -", "x : y", "[ x", ") x", "@ x", "x @", "`C` y", "~", "!", "x , y", "let")
	checkCodes(t, 1, inExp(), "", "1 +", "+ 1", "+", "1 + + 2", "- - 1", "-", "x - - - y", "f - ", "f \\ x -> y", "f let { } in y", "f if a then b else c", "f case a of { _ -> b }", "- \\ x -> y", "- if a then b else c", "\\ -> y", "\\ x", "\\ x y", "\\ x : y -> z", "\\ - 1 -> z", "\\ C x => y", "\\ x = y", "let x = 1 in y }", "let { x = 1 } y", "let { x = 1 in y", "let { 1 } in y", "let { import A } in y", "let { data T = C } in y",
		"if a then b", "if a else b", "if then b else c", "if a then else c", "if a then b else", "case a", "case of { _ -> b }", "case a of { _ }", "case a of { _ -> }", "case a of { -> b }", "case a of { _ = b }", "case a of { _ | b = c }", "case a of { _ | -> c }", "case a of { _ -> b _ -> c }", "case a of { f x -> b }", "case a of { infix 1 + }",
		"(", ")", "( ]", "[ )", "( ,", "( , )", "( a , )", "( , a )", "( a , , b )", "( a , b + )", "( + a * )", "( a", "( a b", "( + + )", "( + a , b )", "( \\ x -> y + )", "( let { } in y + )", "( if a then b else c + )", "( x + y", "( `f` )", "( `f x )", "( x `f )", "( x ` )", "( x `f` * )", "( - - )", "( = )", "( .. )", "( x = )", "( _ )", "_", "~ x", "! x", "x @ y", "x ! ", "x ~",
		"[", "[ a", "[ a ,", "[ a , ]", "[ , a ]", "[ .. a ]", "[ a .. ]", "[ a , b .. c ]", "[ a .. b , c ]", "[ a .. b .. c ]", "[ a | ]", "[ | a ]", "[ a | b , ]", "[ a | , b ]", "[ a , b | c ]", "[ a | b | c ]", "[ a | b <- ]", "[ a | <- b ]", "[ a | b <- c <- d ]", "[ a | f x <- b ]", "[ a | b + c <- d ]", "[ a | let { } in b <- c ]", "[ a | b -> c ]", "[ + ]", "[ a + ]",
		"x `f`", "`f` x", "x `f y", "x ` f g ` y", "x `` y", "x `1` y", "x `+` y", "where", "x :: a", "x = y", "x ; y z", "x => y", "x <- y", "x -> y", "x | y", "x , y", "of", "in", "then", "data", "1 ( ", "import")
	checkCodes(t, 1, place{"module M where { x = ( ", " ) }", nil}, "a , b +", "+ a *", "\\ x -> y +", "a +  b + + ", "a `f` b `", "a ; b", "{ }", "a where { }", "a :: b")
}

// What is well written may still be no tree.
func TestTreesThatAreNone(t *testing.T) {
	checkCodes(t, 2, inTop(), "x = 1 ; import A", "import A ; x = 1 ; import B", "infix 10 +", "infixl 11 +", "infixr 99 + , *", "( : ) = 1", "( :+ ) x = 1", "x = case a of { }", "x = case a of { ; ; }", "f = 1 where { infix 10 + }", "x = let { infix 10 + } in a", "x = case a of { - 0 -> 1 }", "f ( - 0 ) = 1", "x = [ a | - 0 <- b ]", "instance K a where { ( : ) = 1 }",
		"data T = C ; import A", "class K a where { } ; import A ( x )", "f :: a ; import A", "instance K a where { } ; import A", "infix 1 + ; import A", "x = case case a of { } of { _ -> 1 }")
	checkCodes(t, 0, inTop(), "import A ; import B ( ) ; import A ; x = 1", "infix 0 +", "infix 9 +", "x = case a of { - 1 -> 1 ; 0 -> 2 }", "( : ) :: a", "infix 1 :")
	checkCodes(t, 1, inTop(), "import A ; x = 1 ; import b", "infix 10 f", "( : ) = ", "x = case a of { } 1", "infix 10 + ; x")
}

// A tree of as many nodes and levels as there may be, and one more.
func TestSizesOfTrees(t *testing.T) {
	list := func(count int) string { return "[1" + strings.Repeat(",1", count-1) + "]" }
	checkCodes(t, 0, inExp(), list(impl.MaxNodes-5))
	checkCodes(t, 2, inExp(), list(impl.MaxNodes-4), list(impl.MaxNodes))
	checkCodes(t, 1, inExp(), list(impl.MaxNodes)+"]", list(impl.MaxNodes)+" +")
	deep := func(levels int) string { return strings.Repeat("[", levels) + strings.Repeat("]", levels) }
	checkCodes(t, 0, inExp(), deep(impl.MaxDeep-3))
	checkCodes(t, 2, inExp(), deep(impl.MaxDeep-2), deep(1000))
	checkCodes(t, 1, inExp(), deep(1000)+"]", "["+deep(1000))
	tops := func(count int) string { return strings.Repeat("x=1;", count) }
	checkCodes(t, 0, inTop(), tops((impl.MaxNodes-2)/3))
	checkCodes(t, 2, inTop(), tops((impl.MaxNodes-2)/3+1))
	checkCodes(t, 1, inTop(), tops((impl.MaxNodes-2)/3+1)+"1")
}
