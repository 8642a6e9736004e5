package tests

import (
	"strings"
	"testing"

	"loop.example/g00017/impl"
)

func TestCoreOfConstructors(t *testing.T) {
	checkThing(t, "data D a = A | B a (D a) | C Int Int Int ; data E = E (Int -> Int) ; ", [][2]string{
		// Without fields; alone, with fewer and with as many arguments as fields.
		{"f = A", `(let @1 = !M.f in M.A)`},
		{"f = [True, False]", `(let @1 = !M.f in (: True (: False [])))`},
		{"f = B", `(let @1 = !M.f in (\@2 @3 -> (M.B @2 @3)))`},
		{"f = B 1", `(let @1 = !M.f in ((\@2 @3 -> (M.B @2 @3)) 1))`},
		{"f = B 1 A", `(let @1 = !M.f in (M.B 1 M.A))`},
		{"f = C", `(let @1 = !M.f in (\@2 @3 @4 -> (M.C @2 @3 @4)))`},
		{"f = C 1 2", `(let @1 = !M.f in ((\@2 @3 @4 -> (M.C @2 @3 @4)) 1 2))`},
		{"f = C 1 2 3", `(let @1 = !M.f in (M.C 1 2 3))`},
		{"f = (C 1) 2 3", `(let @1 = !M.f in (((\@2 @3 @4 -> (M.C @2 @3 @4)) 1) 2 3))`},
		{"f = E (primAdd 1)", `(let @1 = !M.f in (M.E ((\@2 @3 -> (primAdd @2 @3)) 1)))`},
		{"f = B (\\ x -> x) A", `(let @1 = !M.f in (M.B (\@2 -> (let @3 = !lambda in (let x = @2 in x))) M.A))`},
		{"f = B (\\ x -> x)", `(let @1 = !M.f in ((\@2 @3 -> (M.B @2 @3)) (\@4 -> (let @5 = !lambda in (let x = @4 in x)))))`},
		// The list's own, as an operator, a name and in sections.
		{"f = 1 : []", `(let @1 = !M.f in (: 1 []))`},
		{"f = (:)", `(let @1 = !M.f in (\@2 @3 -> (: @2 @3)))`},
		{"f = (1 :)", `(let @1 = !M.f in ((\@2 @3 -> (: @2 @3)) 1))`},
		{"f = (: [])", `(let @1 = !M.f in (\@2 -> (let @3 = !lambda in (let s' = @2 in (: s' [])))))`},
		{"f = [B, \\ x y -> B x y]", `(let @1 = !M.f in (: (\@2 @3 -> (M.B @2 @3)) (: (\@4 @5 -> (let @6 = !lambda in (let x = @4 in (let y = @5 in (M.B x y))))) [])))`},
	})
}

func TestCoreOfExpressions(t *testing.T) {
	checkThing(t, "", [][2]string{
		{"f = 0", `(let @1 = !M.f in 0)`},
		{"f = 340282366920938463463374607431768211456", `(let @1 = !M.f in 340282366920938463463374607431768211456)`},
		{"f = 'x'", `(let @1 = !M.f in 'x')`},
		{"f = ['\\n', '\\'', '\"', '\\\\']", `(let @1 = !M.f in (: '\n' (: '\'' (: '"' (: '\\' [])))))`},
		{"f = \"a\\nb\\\"\"", `(let @1 = !M.f in "a\nb\"")`},
		{"f = \"\"", `(let @1 = !M.f in [])`},
		{"f = if True then 1 else 2", `(let @1 = !M.f in (case True of { True -> 1; False -> 2 }))`},
		{"f = if (\\ x -> x) True then \\ y -> y else \\ z -> z", `(let @1 = !M.f in (case ((\@2 -> (let @3 = !lambda in (let x = @2 in x))) True) of { True -> (\@4 -> (let @5 = !lambda in (let y = @4 in y))); False -> (\@6 -> (let @7 = !lambda in (let z = @6 in z))) }))`},
		{"f = ()", `(let @1 = !M.f in ())`},
		{"f = (1, 'a')", `(let @1 = !M.f in ((,) 1 'a'))`},
		{"f = (1, (2, 3, 4), \\ x -> x, (), [], \"\", 7)", `(let @1 = !M.f in ((,,,,,,) 1 ((,,) 2 3 4) (\@2 -> (let @3 = !lambda in (let x = @2 in x))) () [] [] 7))`},
		{"f = []", `(let @1 = !M.f in [])`},
		{"f = [[1], [], [2, 3]]", `(let @1 = !M.f in (: (: 1 []) (: [] (: (: 2 (: 3 [])) []))))`},
		{"f = [\\ x -> x, \\ y -> y]", `(let @1 = !M.f in (: (\@2 -> (let @3 = !lambda in (let x = @2 in x))) (: (\@4 -> (let @5 = !lambda in (let y = @4 in y))) [])))`},
		// Applications: of a thing, of what a lambda, a let, an if or a case gives; of more than one argument at once.
		{"f x = f x", `(\@1 -> (let @2 = !M.f in (let x = @1 in (M.f x))))`},
		{"f g = g 1 2 3", `(\@1 -> (let @2 = !M.f in (let g = @1 in (g 1 2 3))))`},
		{"f g = (g 1) 2", `(\@1 -> (let @2 = !M.f in (let g = @1 in ((g 1) 2))))`},
		{"f = (\\ x -> x) (\\ y -> y) 1", `(let @1 = !M.f in ((\@2 -> (let @3 = !lambda in (let x = @2 in x))) (\@4 -> (let @5 = !lambda in (let y = @4 in y))) 1))`},
		{"f = (let { g x = x } in g) 1", `(let @1 = !M.f in ((let g = (\@2 -> (let @3 = !g in (let x = @2 in x))) in g) 1))`},
		{"f g = (if True then g else g) 1", `(\@1 -> (let @2 = !M.f in (let g = @1 in ((case True of { True -> g; False -> g }) 1))))`},
		{"f g = (case g of { h -> h }) 1", `(\@1 -> (let @2 = !M.f in (let g = @1 in ((let @3 = g in (let @4 = !case in (let h = @3 in h))) 1))))`},
		{"f g = [(g `primSeq`), (`g` 1)]", `(\@1 -> (let @2 = !M.f in (let g = @1 in (: ((\@3 @4 -> (primSeq @3 @4)) g) (: (\@5 -> (let @6 = !lambda in (let s' = @5 in (g s' 1)))) [])))))`},
	})
}

func TestCoreOfRanges(t *testing.T) {
	checkThing(t, "", [][2]string{
		{"f = [1 .. 9]", `(let @1 = !M.f in (let @2 = 9; @3 = (\@4 -> (case (primLess @2 @4) of { True -> []; False -> (: @4 (@3 (primAdd @4 1))) })) in (@3 1)))`},
		// Three names ahead of what is in the end, and that ahead of the beginning.
		{"f = [(\\ x -> x) 1 .. (\\ y -> y) 2]", `(let @1 = !M.f in (let @2 = ((\@5 -> (let @6 = !lambda in (let y = @5 in y))) 2); @3 = (\@4 -> (case (primLess @2 @4) of { True -> []; False -> (: @4 (@3 (primAdd @4 1))) })) in (@3 ((\@7 -> (let @8 = !lambda in (let x = @7 in x))) 1))))`},
		{"f x = [g [x] .. g [1 .. x]] ; g _ = 1", `(\@1 -> (let @2 = !M.f in (let x = @1 in (let @3 = (M.g (let @6 = x; @7 = (\@8 -> (case (primLess @6 @8) of { True -> []; False -> (: @8 (@7 (primAdd @8 1))) })) in (@7 1))); @4 = (\@5 -> (case (primLess @3 @5) of { True -> []; False -> (: @5 (@4 (primAdd @5 1))) })) in (@4 (M.g (: x [])))))))`},
		{"f x = [[y .. x] | y <- [x .. 3]]", `(\@1 -> (let @2 = !M.f in (let x = @1 in (let @3 = (\@4 -> (case @4 of { [] -> []; : @5 @6 -> (let @7 = (@3 @6) in (let y = @5 in (: (let @8 = x; @9 = (\@10 -> (case (primLess @8 @10) of { True -> []; False -> (: @10 (@9 (primAdd @10 1))) })) in (@9 y)) @7))) })) in (@3 (let @11 = 3; @12 = (\@13 -> (case (primLess @11 @13) of { True -> []; False -> (: @13 (@12 (primAdd @13 1))) })) in (@12 x)))))))`},
		// A name of the program does not turn the prims of a range.
		{"f primAdd primLess = [primAdd .. primLess]", `(\@1 @2 -> (let @3 = !M.f in (let primAdd = @1 in (let primLess = @2 in (let @4 = primLess; @5 = (\@6 -> (case (primLess @4 @6) of { True -> []; False -> (: @6 (@5 (primAdd @6 1))) })) in (@5 primAdd))))))`},
	})
}

func TestCoreOfComprehensions(t *testing.T) {
	checkThing(t, "data D = A | B Int ; ", [][2]string{
		{"f = [1 | True]", `(let @1 = !M.f in (case True of { True -> (: 1 []); False -> [] }))`},
		{"f x = [1 | x, primEq 1 2]", `(\@1 -> (let @2 = !M.f in (let x = @1 in (case x of { True -> (case (primEq 1 2) of { True -> (: 1 []); False -> [] }); False -> [] }))))`},
		{"f xs = [x | x <- xs]", `(\@1 -> (let @2 = !M.f in (let xs = @1 in (let @3 = (\@4 -> (case @4 of { [] -> []; : @5 @6 -> (let @7 = (@3 @6) in (let x = @5 in (: x @7))) })) in (@3 xs)))))`},
		// A pattern that may fail goes on behind what is drawn.
		{"f xs = [x | B x <- xs]", `(\@1 -> (let @2 = !M.f in (let xs = @1 in (let @3 = (\@4 -> (case @4 of { [] -> []; : @5 @6 -> (let @7 = (@3 @6) in (case @5 of { M.B @8 -> (let x = @8 in (: x @7)); _ -> @7 })) })) in (@3 xs)))))`},
		{"f xs = [1 | _ <- xs, 2 <- [3], ~(y, z) <- []]", `(\@1 -> (let @2 = !M.f in (let xs = @1 in (let @3 = (\@4 -> (case @4 of { [] -> []; : @5 @6 -> (let @7 = (@3 @6) in (let @8 = (\@9 -> (case @9 of { [] -> @7; : @10 @11 -> (let @12 = (@8 @11) in (case (primEq @10 2) of { True -> (let @13 = (\@14 -> (case @14 of { [] -> @12; : @15 @16 -> (let @17 = (@13 @16) in (let y = (let @18 = !lazy in (case @15 of { (,) @19 @20 -> (let y = @19 in (let z = @20 in y)) })) in (let z = (let @21 = !lazy in (case @15 of { (,) @22 @23 -> (let y = @22 in (let z = @23 in z)) })) in (: 1 @17)))) })) in (@13 [])); False -> @12 })) })) in (@8 (: 3 [])))) })) in (@3 xs)))))`},
		// A test ahead of a generator and behind it: the tail is that of the place.
		{"f xs x = [y | x, y <- xs, y, z <- xs, z]", `(\@1 @2 -> (let @3 = !M.f in (let xs = @1 in (let x = @2 in (case x of { True -> (let @4 = (\@5 -> (case @5 of { [] -> []; : @6 @7 -> (let @8 = (@4 @7) in (let y = @6 in (case y of { True -> (let @9 = (\@10 -> (case @10 of { [] -> @8; : @11 @12 -> (let @13 = (@9 @12) in (let z = @11 in (case z of { True -> (: y @13); False -> @13 }))) })) in (@9 xs)); False -> @8 }))) })) in (@4 xs)); False -> [] })))))`},
		// What follows comes ahead of what is drawn from, the head behind all tests.
		{"f = [\\ a -> a | x <- [\\ b -> b], (\\ c -> c) True]", `(let @1 = !M.f in (let @2 = (\@3 -> (case @3 of { [] -> []; : @4 @5 -> (let @6 = (@2 @5) in (let x = @4 in (case ((\@7 -> (let @8 = !lambda in (let c = @7 in c))) True) of { True -> (: (\@9 -> (let @10 = !lambda in (let a = @9 in a))) @6); False -> @6 }))) })) in (@2 (: (\@11 -> (let @12 = !lambda in (let b = @11 in b))) []))))`},
		// One in another: as head, in a test, as what is drawn from.
		{"f xs = [[y | y <- x] | x <- xs]", `(\@1 -> (let @2 = !M.f in (let xs = @1 in (let @3 = (\@4 -> (case @4 of { [] -> []; : @5 @6 -> (let @7 = (@3 @6) in (let x = @5 in (: (let @8 = (\@9 -> (case @9 of { [] -> []; : @10 @11 -> (let @12 = (@8 @11) in (let y = @10 in (: y @12))) })) in (@8 x)) @7))) })) in (@3 xs)))))`},
		{"f xs = [x | x <- [y | y <- xs]]", `(\@1 -> (let @2 = !M.f in (let xs = @1 in (let @3 = (\@4 -> (case @4 of { [] -> []; : @5 @6 -> (let @7 = (@3 @6) in (let x = @5 in (: x @7))) })) in (@3 (let @8 = (\@9 -> (case @9 of { [] -> []; : @10 @11 -> (let @12 = (@8 @11) in (let y = @10 in (: y @12))) })) in (@8 xs)))))))`},
		// A name hides one of a generator ahead; what is drawn from has still the one around.
		{"f x = [x | x <- x, x <- x]", `(\@1 -> (let @2 = !M.f in (let x = @1 in (let @3 = (\@4 -> (case @4 of { [] -> []; : @5 @6 -> (let @7 = (@3 @6) in (let x = @5 in (let @8 = (\@9 -> (case @9 of { [] -> @7; : @10 @11 -> (let @12 = (@8 @11) in (let x = @10 in (: x @12))) })) in (@8 x)))) })) in (@3 x)))))`},
	})
}

func TestCoreOfClasses(t *testing.T) {
	checkCores(t, "", [][2]string{
		// Superclasses, then methods; of a dictionary there is no other one. A class with neither has a dictionary without fields.
		{"class C a where { m , n :: a } ; f = 1", `M.m = (\@1 -> (let @2 = !M.m in (case @1 of { dict:M.C @3 @4 -> (let x = @3 in x) }))); M.n = (\@5 -> (let @6 = !M.n in (case @5 of { dict:M.C @7 @8 -> (let x = @8 in x) }))); M.f = (let @9 = !M.f in 1)`},
		{"class C a where { } ; instance C Int where { } ; instance C a => C [a] where { } ; f = 1", `inst:M.C:Int = (let @1 = !inst:M.C:Int in dict:M.C); inst:M.C:[] = (\@2 -> (let @3 = !inst:M.C:[] in (let #1.1 = @2 in dict:M.C))); M.f = (let @4 = !M.f in 1)`},
		{"class C a where { } ; class C a => D a where { m :: a -> a } ; instance D Int where { m 0 = 1 ; m x = g where { g = x } } ; instance C Int where { } ; f x = m x ; g = f 2",
			`super:M.D:M.C = (\@1 -> (let @2 = !super:M.D:M.C in (case @1 of { dict:M.D @3 @4 -> (let x = @3 in x) }))); M.m = (\@5 -> (let @6 = !M.m in (case @5 of { dict:M.D @7 @8 -> (let x = @8 in x) }))); inst:M.D:Int = (let @9 = !inst:M.D:Int in (let m:M.m = (\@10 -> (let @11 = (let @12 = !m:M.m in (let x = @10 in (let g = (let @13 = !g in x) in g))) in (case (primEq @10 0) of { True -> 1; False -> @11 }))) in (dict:M.D inst:M.C:Int m:M.m))); inst:M.C:Int = (let @14 = !inst:M.C:Int in dict:M.C); M.f = (\@15 @16 -> (let @17 = !M.f in (let #1.1 = @15 in (let x = @16 in ((M.m #1.1) x))))); M.g = (let @18 = !M.g in ((M.f inst:M.D:Int) 2))`},
		// A dictionary of a superclass, and of an instance with preds.
		{"class C a where { m :: a -> a } ; class C a => D a where { } ; instance C a => C [a] where { m x = x } ; g :: D a => a -> [a] ; g x = m [m x] ; f x = m [x]",
			`M.m = (\@1 -> (let @2 = !M.m in (case @1 of { dict:M.C @3 -> (let x = @3 in x) }))); super:M.D:M.C = (\@4 -> (let @5 = !super:M.D:M.C in (case @4 of { dict:M.D @6 -> (let x = @6 in x) }))); inst:M.C:[] = (\@7 -> (let @8 = !inst:M.C:[] in (let #1.1 = @7 in (let m:M.m = (\@9 -> (let @10 = !m:M.m in (let x = @9 in x))) in (dict:M.C m:M.m))))); M.g = (\@11 @12 -> (let @13 = !M.g in (let #1.1 = @11 in (let x = @12 in ((M.m (inst:M.C:[] (super:M.D:M.C #1.1))) (: ((M.m (super:M.D:M.C #1.1)) x) [])))))); M.f = (\@14 @15 -> (let @16 = !M.f in (let #1.1 = @14 in (let x = @15 in ((M.m (inst:M.C:[] #1.1)) (: x []))))))`},
		// Things of blocks with dictionaries of their own; the patterns of these ahead of the others in each clause.
		{"class C a where { m :: a -> Bool } ; f x = g x where { g 1 = 'a' ; g _ = 'b' ; h y z | m y = z }",
			`M.m = (\@1 -> (let @2 = !M.m in (case @1 of { dict:M.C @3 -> (let x = @3 in x) }))); M.f = (\@4 -> (let @5 = !M.f in (let x = @4 in (let g = (\@6 -> (let @7 = (let @8 = !g in 'b') in (case (primEq @6 1) of { True -> 'a'; False -> @7 }))); h = (\@9 @10 @11 -> (let @12 = !h in (let #2.1 = @9 in (let y = @10 in (let z = @11 in (case ((M.m #2.1) y) of { True -> z; False -> @12 })))))) in (g x)))))`},
		// A method with a context of its own.
		{"class C a where { m :: C b => b -> a -> a } ; instance C Int where { m x y = m y y } ; f x = m 'a' x ; instance C Char where { m _ = \\ y -> y }",
			`M.m = (\@1 -> (let @2 = !M.m in (case @1 of { dict:M.C @3 -> (let x = @3 in x) }))); inst:M.C:Int = (let @4 = !inst:M.C:Int in (let m:M.m = (\@5 @6 @7 -> (let @8 = !m:M.m in (let #2.1 = @5 in (let x = @6 in (let y = @7 in ((M.m inst:M.C:Int inst:M.C:Int) y y)))))) in (dict:M.C m:M.m))); inst:M.C:Char = (let @9 = !inst:M.C:Char in (let m:M.m = (\@10 @11 -> (let @12 = !m:M.m in (let #2.1 = @10 in (\@13 -> (let @14 = !lambda in (let y = @13 in y)))))) in (dict:M.C m:M.m))); M.f = (\@15 @16 -> (let @17 = !M.f in (let #1.1 = @15 in (let x = @16 in ((M.m #1.1 inst:M.C:Char) 'a' x)))))`},
		// One superclass twice: its selector is one thing of two clauses.
		{"class C a where { } ; class (C a, C a) => D a where { m :: a } ; f = 1",
			`super:M.D:M.C = (\@1 -> (let @2 = (let @3 = !super:M.D:M.C in (case @1 of { dict:M.D @4 @5 @6 -> (let x = @5 in x) })) in (case @1 of { dict:M.D @7 @8 @9 -> (let x = @7 in x) }))); M.m = (\@10 -> (let @11 = !M.m in (case @10 of { dict:M.D @12 @13 @14 -> (let x = @14 in x) }))); M.f = (let @15 = !M.f in 1)`},
		{"class B a where { } ; class C a where { } ; class (C a, B a, C a) => D a where { } ; f = 1",
			`super:M.D:M.C = (\@1 -> (let @2 = (let @3 = !super:M.D:M.C in (case @1 of { dict:M.D @4 @5 @6 -> (let x = @6 in x) })) in (case @1 of { dict:M.D @7 @8 @9 -> (let x = @7 in x) }))); super:M.D:M.B = (\@10 -> (let @11 = !super:M.D:M.B in (case @10 of { dict:M.D @12 @13 @14 -> (let x = @13 in x) }))); M.f = (let @15 = !M.f in 1)`},
	})
}

func TestCoreOfModules(t *testing.T) {
	const texts = "module M where { import P ; import Q ; data T a = L | N (T a) a deriving (Eq, Show) ; f x = size [x, x] ; g = L == N L 'a' } module Q (size) where { import P (prim) ; size [] = 0 ; size (_ : xs) = prim (size xs) } module P where { class Eq a where { (==) :: a -> a -> Bool } ; class Show a where { show :: a -> [Char] } ; instance Eq Char where { x == y = primEq (primOrd x) (primOrd y) } ; prim = primAdd 1 }"
	things := []string{
		`P.== = (\@1 -> (let @2 = !P.== in (case @1 of { dict:P.Eq @3 -> (let x = @3 in x) })))`,
		`P.show = (\@4 -> (let @5 = !P.show in (case @4 of { dict:P.Show @6 -> (let x = @6 in x) })))`,
		`inst:P.Eq:Char = (let @7 = !inst:P.Eq:Char in (let m:P.== = (\@8 @9 -> (let @10 = !m:P.== in (let x = @8 in (let y = @9 in (primEq (primOrd x) (primOrd y)))))) in (dict:P.Eq m:P.==)))`,
		`inst:P.Eq:M.T = (\@11 -> (let @12 = !inst:P.Eq:M.T in (let #1.1 = @11 in (let m:P.== = (\@13 @14 -> (let @15 = (let @16 = (let @17 = !m:P.== in False) in (case @13 of { M.N @18 @19 -> (let a1 = @18 in (let a2 = @19 in (case @14 of { M.N @20 @21 -> (let b1 = @20 in (let b2 = @21 in (case ((P.== (inst:P.Eq:M.T #1.1)) a1 b1) of { True -> ((P.== #1.1) a2 b2); False -> False }))); _ -> @16 }))); _ -> @16 })) in (case @13 of { M.L -> (case @14 of { M.L -> True; _ -> @15 }); _ -> @15 }))) in (dict:P.Eq m:P.==)))))`,
		`inst:P.Show:M.T = (\@22 -> (let @23 = !inst:P.Show:M.T in (let #1.1 = @22 in (let m:P.show = (\@24 -> (let @25 = (let @26 = !m:P.show in (case @24 of { M.N @27 @28 -> (let a1 = @27 in (let a2 = @28 in (primAppend "(N" (primAppend " " (primAppend ((P.show (inst:P.Show:M.T #1.1)) a1) (primAppend " " (primAppend ((P.show #1.1) a2) ")"))))))); _ -> @26 })) in (case @24 of { M.L -> "L"; _ -> @25 }))) in (dict:P.Show m:P.show)))))`,
		`P.prim = (let @29 = !P.prim in ((\@30 @31 -> (primAdd @30 @31)) 1))`,
		`Q.size = (\@32 -> (let @33 = (let @34 = !Q.size in (case @32 of { : @35 @36 -> (let xs = @36 in (P.prim (Q.size xs))); _ -> @34 })) in (case @32 of { [] -> 0; _ -> @33 })))`,
		`M.f = (\@37 -> (let @38 = !M.f in (let x = @37 in (Q.size (: x (: x []))))))`,
		`M.g = (let @39 = !M.g in ((P.== (inst:P.Eq:M.T inst:P.Eq:Char)) M.L (M.N M.L 'a')))`,
	}
	list := modulesOf(t, texts)
	for _, main := range []string{"M.f", "M.g", "Q.size", "P.prim", "P.==", "P.show", "inst:P.Eq:Char", "inst:P.Eq:M.T", "inst:P.Show:M.T"} {
		got := impl.FormatCore(checkSugar(t, list, main))
		if want := "(let " + spelledOut(strings.Join(things, "; ")) + builtinCores + main + ")"; got != want {
			t.Errorf("%s: is\n%s\nnot\n%s", main, got, want)
		}
	}
	// The order in which modules are given turns the order of things, as far as imports leave it open, and nothing else.
	inEachOrder(list, func(list []impl.Node) {
		got := impl.FormatCore(checkSugar(t, list, "M.f"))
		if want := "(let " + spelledOut(strings.Join(things, "; ")) + builtinCores + "M.f)"; got != want {
			t.Errorf("is\n%s\nnot\n%s", got, want)
		}
	})
}
