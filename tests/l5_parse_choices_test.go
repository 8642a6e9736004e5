package tests

import (
	"testing"

	"loop.example/g00017/impl"
)

// A context is there exactly if a '=>' follows ahead of the next '=', ';', '}', 'where'.
func TestContextByAnArrowAhead(t *testing.T) {
	checkTrees(t, inTop(), [][2]string{
		{"f :: ( a , b )", "DSig(DNames(DItem:f) DContext TTuple(TVar:a TVar:b))"},
		{"f :: ( E a , F b ) => ( a , b )", "DSig(DNames(DItem:f) DContext(TApp(TCon:E TVar:a) TApp(TCon:F TVar:b)) TTuple(TVar:a TVar:b))"},
		{"f :: E a", "DSig(DNames(DItem:f) DContext TApp(TCon:E TVar:a))"},
		{"f :: E a ; g :: F a => a", "DSig(DNames(DItem:f) DContext TApp(TCon:E TVar:a))"},
		{"class K a where { m :: E a => a }", "DClass:K(DContext TVar:a DSig(DNames(DItem:m) DContext(TApp(TCon:E TVar:a)) TVar:a))"},
		{"instance K T where { x = y where { f :: E a => a } }", "DInst:K(DContext TCon:T DClause:x(NRhs(NVar:y DSig(DNames(DItem:f) DContext(TApp(TCon:E TVar:a)) TVar:a))))"},
	})
	// Where no '=>' counts, a type or a class is read, and not a context that would fit.
	checkCodes(t, 1, inTop(), "class E a K a where { m :: F a => a }", "instance ( E a ) K T where { x = y where { f :: F a => a } }", "f :: ( E a , F b ) a = b => c", "class E a = K a => L a where { }", "class K a ; x = 1 => 2", "class E a } => K a where { }")
	// Where one counts, a context is read, and not a type that would fit.
	checkCodes(t, 1, inTop(), "f :: a -> b => c", "f :: ( a ) => b", "f :: T a b => c", "f :: [ E a ] => c", "f :: T => c", "f :: ( E a ) b => c", "f :: ( ( E a ) ) => c", "f :: ( E a => b )", "f :: a -> ( E b => b )", "class ( K a ) where2 => { }")
}

// A signature is one by what stands behind its first name.
func TestSignatureByWhatFollows(t *testing.T) {
	checkTrees(t, inTop(), [][2]string{
		{"f :: a", "DSig(DNames(DItem:f) DContext TVar:a)"}, {"f , g :: a", "DSig(DNames(DItem:f DItem:g) DContext TVar:a)"}, {"( + ) , f :: a", "DSig(DNames(DItem:+ DItem:f) DContext TVar:a)"}, {"( ! ) :: a", "DSig(DNames(DItem:!) DContext TVar:a)"},
		{"( + ) = a", "DClause:+(NRhs(NVar:a))"}, {"f ( x , y ) = a", "DClause:f(PTuple(PVar:x PVar:y) NRhs(NVar:a))"}, {"( x , y ) + z = a", "DClause:+(PTuple(PVar:x PVar:y) PVar:z NRhs(NVar:a))"},
	})
	checkCodes(t, 1, inTop(), "f , g = a", "( + ) , x = a", "f x :: a", "( + ) x :: a", "f , x + y = a", "( x ) :: a", "( + , f ) :: a", "f = a :: b", "x + y :: a")
}

// A clause is of the first form if a name stands at its beginning without a vop behind it, or '(' any ')'.
func TestClauseOfEitherForm(t *testing.T) {
	checkTrees(t, inTop(), [][2]string{
		{"f x = a", "DClause:f(PVar:x NRhs(NVar:a))"}, {"f + x = a", "DClause:+(PVar:f PVar:x NRhs(NVar:a))"}, {"f `x` y = a", "DClause:x(PVar:f PVar:y NRhs(NVar:a))"}, {"f ! x = a", "DClause:f(PBang(PVar:x) NRhs(NVar:a))"}, {"f ~ x ! y = a", "DClause:f(PLazy(PVar:x) PBang(PVar:y) NRhs(NVar:a))"},
		{"( f ) + x = a", "DClause:+(PVar:f PVar:x NRhs(NVar:a))"},
		{"( + ) f = a", "DClause:+(PVar:f NRhs(NVar:a))"}, {"( - ) f = a", "DClause:-(PVar:f NRhs(NVar:a))"}, {"( ! ) f = a", "DClause:!(PVar:f NRhs(NVar:a))"}, {"( ! f ) - g = a", "DClause:-(PBang(PVar:f) PVar:g NRhs(NVar:a))"}, {"( ~ f ) ++ g = a", "DClause:++(PLazy(PVar:f) PVar:g NRhs(NVar:a))"}, {"( - 1 ) * 2 = a", "DClause:*(PNum:-1 PNum:2 NRhs(NVar:a))"},
	})
	checkCodes(t, 1, inTop(), "f : x = a", "( f + ) = a", "( ( + ) ) = a", "( + f ) = a", "f x + y = a", "( + ) + x = a", "( + ) `f` x = a", "f ! x + y = a", "f `C` x = a", "( f x ) + y = a", "f + x y = a", "f + x + y = a", "x ! = a", "! x = a")
	checkCodes(t, 2, inTop(), "( : ) f = a", "( : ) = a")
}

func TestBracketsWithOperators(t *testing.T) {
	checkTrees(t, inExp(), [][2]string{
		{"( + )", "NVar:+"}, {"( + a )", "NRight:+(NVar:a)"}, {"( a + )", "NLeft:+(NVar:a)"}, {"( a + b )", "NOps(NVar:a NVar:+ NVar:b)"}, {"( a + b + )", "NLeft:+(NOps(NVar:a NVar:+ NVar:b))"}, {"( + a + b )", "NRight:+(NOps(NVar:a NVar:+ NVar:b))"},
		{"( - )", "NVar:-"}, {"( - a )", "NNeg(NVar:a)"}, {"( a - )", "NLeft:-(NVar:a)"}, {"( - a - )", "NLeft:-(NNeg(NVar:a))"}, {"( - a , b )", "NTuple(NNeg(NVar:a) NVar:b)"}, {"( a , - b )", "NTuple(NVar:a NNeg(NVar:b))"}, {"( - f a + b )", "NOps(NNeg(NApp(NVar:f NVar:a)) NVar:+ NVar:b)"},
		{"( ! )", "NVar:!"}, {"( ! a )", "NRight:!(NVar:a)"}, {"( a ! )", "NLeft:!(NVar:a)"}, {"( a ! b )", "NOps(NVar:a NVar:! NVar:b)"}, {"( ~ )", "NVar:~"}, {"( ~ a )", "NRight:~(NVar:a)"}, {"( a ~ )", "NLeft:~(NVar:a)"}, {"a ~ b", "NOps(NVar:a NVar:~ NVar:b)"},
		{"( `f` a )", "NRight:f(NVar:a)"}, {"( a `f` )", "NLeft:f(NVar:a)"}, {"( a `f` b `g` )", "NLeft:g(NOps(NVar:a NVar:f NVar:b))"}, {"( `C` a )", "NRight:C(NVar:a)"}, {"( a `C` )", "NLeft:C(NVar:a)"}, {"( a : b : )", "NLeft::(NOps(NVar:a NCon:: NVar:b))"},
		{"( ( a + ) )", "NLeft:+(NVar:a)"}, {"( ( + a ) + )", "NLeft:+(NRight:+(NVar:a))"}, {"( a + ( \\ x -> y ) + )", "NLeft:+(NOps(NVar:a NVar:+ NLam(PVar:x NVar:y)))"}, {"( \\ x -> ( y + ) )", "NLam(PVar:x NLeft:+(NVar:y))"}, {"[ ( a + ) ]", "NList(NLeft:+(NVar:a))"},
		{"( case a of { _ -> b } `f` )", "NLeft:f(NCase(NVar:a NAlt(PWild NRhs(NVar:b))))"},
	})
	// The bracket's own exp alone ends ahead of an oper: not one that stands in it, nor one that stands beside it.
	checkCodes(t, 1, inExp(), "( \\ x -> y + )", "( a + \\ x -> y + )", "( let { } in y + )", "( if a then b else c + )", "( a + if b then c else d `f` )", "( a , b + )", "( a + , b )", "( + a + )", "( `f` a `f` )", "[ a + ]", "( - )  )", "a +", "( a + + )", "( + , a )", "( a `f` , b )", "( `f` )")
}

func TestMinusAsSignAndOperator(t *testing.T) {
	checkTrees(t, inExp(), [][2]string{
		{"- a", "NNeg(NVar:a)"}, {"a - b", "NOps(NVar:a NVar:- NVar:b)"}, {"a-b", "NOps(NVar:a NVar:- NVar:b)"}, {"a - - b", "NOps(NVar:a NVar:- NNeg(NVar:b))"}, {"a * - b - - c", "NOps(NVar:a NVar:* NNeg(NVar:b) NVar:- NNeg(NVar:c))"}, {"f - 1", "NOps(NVar:f NVar:- NNum:1)"}, {"f ( - 1 )", "NApp(NVar:f NNeg(NNum:1))"}, {"- 1 - 2", "NOps(NNeg(NNum:1) NVar:- NNum:2)"},
		{"[ - 1 , - 2 ]", "NList(NNeg(NNum:1) NNeg(NNum:2))"}, {"[ - 1 .. - 2 ]", "NRange(NNeg(NNum:1) NNeg(NNum:2))"}, {"\\ x -> - x", "NLam(PVar:x NNeg(NVar:x))"}, {"if - 1 then - 2 else - 3", "NIf(NNeg(NNum:1) NNeg(NNum:2) NNeg(NNum:3))"}, {"case - 1 of { - 1 -> - 1 }", "NCase(NNeg(NNum:1) NAlt(PNum:-1 NRhs(NNeg(NNum:1))))"},
	})
	checkTrees(t, inPattern(), [][2]string{{"- 1", "PNum:-1"}, {"- 1 : - 2", "POps(PNum:-1 PCon:: PNum:-2)"}, {"C ( - 1 )", "PCon:C(PNum:-1)"}, {"[ - 1 ]", "PList(PNum:-1)"}, {"~ ( - 1 )", "PLazy(PNum:-1)"}})
	checkCodes(t, 1, inExp(), "- - a", "- ( - )  -", "- + a", "a - + b", "-- a", "a --")
	checkCodes(t, 1, inPattern(), "C - 1", "~ - 1", "x @ - 1", "- C", "a - 1", "- ( 1 )")
}

// A qualifier draws if a '<-' follows ahead of the next ',' or ']', where what stands in a bracket of its own does not count.
func TestQualifierByAnArrowAhead(t *testing.T) {
	checkTrees(t, inExp(), [][2]string{
		{"[ a | b <- c ]", "NComp(NVar:a NGen(PVar:b NVar:c))"}, {"[ a | b ]", "NComp(NVar:a NTest(NVar:b))"}, {"[ a | b , c <- d ]", "NComp(NVar:a NTest(NVar:b) NGen(PVar:c NVar:d))"}, {"[ a | b <- c , d ]", "NComp(NVar:a NGen(PVar:b NVar:c) NTest(NVar:d))"},
		{"[ a | ( b , c ) <- d ]", "NComp(NVar:a NGen(PTuple(PVar:b PVar:c) NVar:d))"}, {"[ a | [ b , c ] <- d ]", "NComp(NVar:a NGen(PList(PVar:b PVar:c) NVar:d))"}, {"[ a | ( b , c ) ]", "NComp(NVar:a NTest(NTuple(NVar:b NVar:c)))"}, {"[ a | [ b , c ] , d <- e ]", "NComp(NVar:a NTest(NList(NVar:b NVar:c)) NGen(PVar:d NVar:e))"},
		{"[ a | [ b | c <- d ] ]", "NComp(NVar:a NTest(NComp(NVar:b NGen(PVar:c NVar:d))))"}, {"[ a | f [ b | c <- d ] , e ]", "NComp(NVar:a NTest(NApp(NVar:f NComp(NVar:b NGen(PVar:c NVar:d)))) NTest(NVar:e))"}, {"[ a | b <- [ c | d <- e ] ]", "NComp(NVar:a NGen(PVar:b NComp(NVar:c NGen(PVar:d NVar:e))))"},
		{"[ a | let { x = [ b | c <- d ] ; y = 1 } in x , e ]", "NComp(NVar:a NTest(NLet(DClause:x(NRhs(NComp(NVar:b NGen(PVar:c NVar:d)))) DClause:y(NRhs(NNum:1)) NVar:x)) NTest(NVar:e))"},
		{"[ a | b : c <- d ]", "NComp(NVar:a NGen(POps(PVar:b PCon:: PVar:c) NVar:d))"}, {"[ a | C b ( D c ) <- d , \\ x -> x ]", "NComp(NVar:a NGen(PCon:C(PVar:b PCon:D(PVar:c)) NVar:d) NTest(NLam(PVar:x NVar:x)))"}, {"[ a | ! b <- c , ~ d <- e ]", "NComp(NVar:a NGen(PBang(PVar:b) NVar:c) NGen(PLazy(PVar:d) NVar:e))"},
		{"[ a | [ let { } in b | c <- d ] ]", "NComp(NVar:a NTest(NComp(NLet(NVar:b) NGen(PVar:c NVar:d))))"}, {"[ a | ( case b of { _ -> c } , [ d | e <- f ] ) ]", "NComp(NVar:a NTest(NTuple(NCase(NVar:b NAlt(PWild NRhs(NVar:c))) NComp(NVar:d NGen(PVar:e NVar:f)))))"},
		{"[ a | let { f , g :: b } in f , c <- d ]", "NComp(NVar:a NTest(NLet(DSig(DNames(DItem:f DItem:g) DContext TVar:b) NVar:f)) NGen(PVar:c NVar:d))"},
		{"[ [ b | b <- c ] | d ]", "NComp(NComp(NVar:b NGen(PVar:b NVar:c)) NTest(NVar:d))"}, {"[ a | - 1 <- b , - 1 ]", "NComp(NVar:a NGen(PNum:-1 NVar:b) NTest(NNeg(NNum:1)))"},
	})
	checkCodes(t, 1, inExp(), "[ a | f x <- b ]", "[ a | b + c <- d ]", "[ a | [ b | c ] <- d ]", "[ a | ( b <- c ) ]", "[ a | b , <- c ]", "[ a | b ( <- ) c ]", "[ a | b <- c <- d ]", "[ a | case b of { c -> d } <- e ]", "[ a | ( b <- c , d ]", "[ a | b ) <- c ]", "[ a | b } <- c ]", "[ a | b ] <- c ]", "[ a | _ ]", "[ a | x @ y ]")
}

// Names between two backquotes, by what may stand there.
func TestNamesBetweenBackquotes(t *testing.T) {
	checkTrees(t, inExp(), [][2]string{{"a `f` b", "NOps(NVar:a NVar:f NVar:b)"}, {"a `C` b", "NOps(NVar:a NCon:C NVar:b)"}, {"a ` f ` b", "NOps(NVar:a NVar:f NVar:b)"}, {"a`f`b`C`c", "NOps(NVar:a NVar:f NVar:b NCon:C NVar:c)"}, {"a `f` - b", "NOps(NVar:a NVar:f NNeg(NVar:b))"}})
	checkTrees(t, inPattern(), [][2]string{{"a `C` b", "POps(PVar:a PCon:C PVar:b)"}, {"a `C` - 1 `D` _", "POps(PVar:a PCon:C PNum:-1 PCon:D PWild)"}})
	checkTrees(t, inTop(), [][2]string{{"infixl 1 `f` , `C`", "DFix:infixl(NNum:1 DNames(DItem:f DItem:C))"}, {"a `f` b = c", "DClause:f(PVar:a PVar:b NRhs(NVar:c))"}, {"_ `f` C = c", "DClause:f(PWild PCon:C NRhs(NVar:c))"}})
	checkCodes(t, 1, inExp(), "a `+` b", "a `1` b", "a `f g` b", "a `` b", "a `_` b", "a `( + )` b", "a `f b", "a f` b", "`f` a", "a `f`", "a `where` b", "a ``f`` b")
	checkCodes(t, 1, inPattern(), "a `f` b", "a `:` b", "a `C b", "`C`", "a `C`", "`C` a")
	checkCodes(t, 1, inTop(), "infixl 1 `f", "infixl 1 ``", "infixl 1 `+`", "infixl 1 `f g`", "a `C` b = c", "a `f b = c", "C `D` b = c", "( a ) `+` b = c", "`f` a = b", "`f` :: a")
	checkCodes(t, 1, inWhole(), "module M ( `f` ) where { }", "module M where { import A ( `f` ) }")
}

// One alone in brackets is itself, and tuples have none, two or more.
func TestBracketsAroundOne(t *testing.T) {
	checkTrees(t, inExp(), [][2]string{{"( )", "NTuple"}, {"( a )", "NVar:a"}, {"( ( ( a ) ) )", "NVar:a"}, {"( a , b )", "NTuple(NVar:a NVar:b)"}, {"( a , b , c , d )", "NTuple(NVar:a NVar:b NVar:c NVar:d)"}, {"( ( a , b ) )", "NTuple(NVar:a NVar:b)"}, {"( ( ) )", "NTuple"}, {"( ( ( + ) ) )", "NVar:+"}, {"( ( a ) + )", "NLeft:+(NVar:a)"}})
	checkTrees(t, inPattern(), [][2]string{{"( )", "PTuple"}, {"( a )", "PVar:a"}, {"( ( ( a ) ) )", "PVar:a"}, {"( a , b )", "PTuple(PVar:a PVar:b)"}, {"( a , b , c )", "PTuple(PVar:a PVar:b PVar:c)"}, {"( ( ) )", "PTuple"}, {"C ( ( a : b ) )", "PCon:C(POps(PVar:a PCon:: PVar:b))"}})
	checkTrees(t, inType(), [][2]string{{"( )", "TTuple"}, {"( a )", "TVar:a"}, {"( ( ( a ) ) )", "TVar:a"}, {"( a , b )", "TTuple(TVar:a TVar:b)"}, {"( a , b , c )", "TTuple(TVar:a TVar:b TVar:c)"}, {"( ( ) )", "TTuple"}, {"( ( a -> b ) )", "TFun(TVar:a TVar:b)"}})
}

// Braces and ';' may be written, or put by layout, or both.
func TestBlocksByLayout(t *testing.T) {
	want := parsed(t, "module M where { import A ; f x = y where { y = case x of { 1 -> a ; _ -> b } ; z = 1 } ; g = let { a = 1 ; b = 2 } in a }")
	for _, text := range []string{
		"module M where\nimport A\nf x = y\n  where y = case x of 1 -> a\n                      _ -> b\n        z = 1\ng = let a = 1\n        b = 2 in a\n",
		"module M where\n  import A\n  f x = y where\n    y = case x of\n      1 -> a\n      _ -> b\n    z = 1\n  g = let\n    a = 1\n    b = 2\n   in a",
		"module M where { import A; f x = y\n where y = case x of { 1 -> a; _ -> b }\n       z = 1\n ; g = let a = 1; b = 2 in a }",
		"module M where\nimport A; f x = y where { y = case x of 1 -> a; _ -> b\n; z = 1 }; g = let { a = 1; b = 2 } in a",
		"module M where {; import A ;; f x = y where {; y = case x of {; 1 -> a ;; _ -> b ; } ;; z = 1 ; } ;; g = let {; a = 1 ;; b = 2 ; } in a ; }",
		"module M where\nimport A;\n;f x = y where\n ;y = case x of\n   ;1 -> a;\n   ;_ -> b;\n ;z = 1;\n;g = let ;a = 1;;b = 2; in a;",
	} {
		if got := impl.ParseText(text); got.Code != 0 || !impl.SameNode(got.Tree, want) {
			t.Errorf("%s\nis code %d %s", text, got.Code, kinded(got.Tree))
		}
	}
}

func TestEmptyBlocks(t *testing.T) {
	for _, text := range []string{"module M where", "module M where\n", "module M where { }", "module M where {;;}", "module M where\n{- -}\n", "module M where {\n\n}"} {
		checkTrees(t, inWhole(), [][2]string{{text, "DModule:M(DNames:all)"}})
	}
	checkTrees(t, inWhole(), [][2]string{
		{"module M where\nclass K a where\ninstance K T where\nx = let in y where\nz = 1", "DModule:M(DNames:all DClass:K(DContext TVar:a) DInst:K(DContext TCon:T) DClause:x(NRhs(NLet(NVar:y))) DClause:z(NRhs(NNum:1)))"},
	})
	checkCodes(t, 2, inWhole(), "module M where\nx = case a of\ny = 1", "module M where\nx = case a of", "module M where { x = case a of { } }", "module M where { x = case a of {;} }")
}
