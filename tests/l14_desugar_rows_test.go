package tests

import (
	"testing"

	"loop.example/g00017/impl"
)

func TestCoreOfThings(t *testing.T) {
	checkCores(t, "", [][2]string{
		// No pattern, one and more; one clause and many. The rest has its numbers ahead of what it stands behind.
		{"f = 1", `M.f = (let @1 = !M.f in 1)`},
		{"f _ = 1", `M.f = (\@1 -> (let @2 = !M.f in 1))`},
		{"f _ _ _ = 1", `M.f = (\@1 @2 @3 -> (let @4 = !M.f in 1))`},
		{"f _ = 1 ; f _ = 2", `M.f = (\@1 -> (let @2 = (let @3 = !M.f in 2) in 1))`},
		{"f _ _ = 1 ; f _ _ = 2 ; f _ _ = 3", `M.f = (\@1 @2 -> (let @3 = (let @4 = (let @5 = !M.f in 3) in 2) in 1))`},
		{"f True = 1 ; f False = 2", `M.f = (\@1 -> (let @2 = (let @3 = !M.f in (case @1 of { False -> 2; _ -> @3 })) in (case @1 of { True -> 1; _ -> @2 })))`},
		{"f (a : b) = b ; f [c] = [c] ; f d = d", `M.f = (\@1 -> (let @2 = (let @3 = (let @4 = !M.f in (let d = @1 in d)) in (case @1 of { : @5 @6 -> (let c = @5 in (case @6 of { [] -> (: c []); _ -> @3 })); _ -> @3 })) in (case @1 of { : @7 @8 -> (let a = @7 in (let b = @8 in b)); _ -> @2 })))`},
		// Things by their first clauses, whatever names them first; numbers go on from one to the next.
		{"f = g ; g = h ; h = 1", `M.f = (let @1 = !M.f in M.g); M.g = (let @2 = !M.g in M.h); M.h = (let @3 = !M.h in 1)`},
		{"h x = f x ; f x = g x ; g x = h x", `M.h = (\@1 -> (let @2 = !M.h in (let x = @1 in (M.f x)))); M.f = (\@3 -> (let @4 = !M.f in (let x = @3 in (M.g x)))); M.g = (\@5 -> (let @6 = !M.g in (let x = @5 in (M.h x))))`},
		{"g :: Int ; f :: Int -> Int ; f 1 = g ; f _ = f 1 ; g = 2", `M.f = (\@1 -> (let @2 = (let @3 = !M.f in (M.f 1)) in (case (primEq @1 1) of { True -> M.g; False -> @2 }))); M.g = (let @4 = !M.g in 2)`},
		{"infixl 6 + ; x + y = primAdd x y ; f = 1 + 2 + 3", `M.+ = (\@1 @2 -> (let @3 = !M.+ in (let x = @1 in (let y = @2 in (primAdd x y))))); M.f = (let @4 = !M.f in (M.+ (M.+ 1 2) 3))`},
		{"f = f", `M.f = (let @1 = !M.f in M.f)`},
	})
}

func TestCoreOfPatterns(t *testing.T) {
	const datas = "data D a = A | B a (D a) | C Int ; "
	checkThing(t, datas, [][2]string{
		{"f x = x", `(\@1 -> (let @2 = !M.f in (let x = @1 in x)))`},
		{"f _ = 1", `(\@1 -> (let @2 = !M.f in 1))`},
		{"f x@_ = x", `(\@1 -> (let @2 = !M.f in (let x = @1 in x)))`},
		{"f x@y = x", `(\@1 -> (let @2 = !M.f in (let x = @1 in (let y = @1 in x))))`},
		{"f x@[] = x", `(\@1 -> (let @2 = !M.f in (let x = @1 in (case @1 of { [] -> x; _ -> @2 }))))`},
		{"f !_ = 1", `(\@1 -> (let @2 = !M.f in (primSeq @1 1)))`},
		{"f !x = x", `(\@1 -> (let @2 = !M.f in (primSeq @1 (let x = @1 in x))))`},
		{"f !1 = 2", `(\@1 -> (let @2 = !M.f in (primSeq @1 (case (primEq @1 1) of { True -> 2; False -> @2 }))))`},
		{"f !(!x) = x", `(\@1 -> (let @2 = !M.f in (primSeq @1 (primSeq @1 (let x = @1 in x)))))`},
		{"f x@(!y) = x", `(\@1 -> (let @2 = !M.f in (let x = @1 in (primSeq @1 (let y = @1 in x)))))`},
		{"f !(x@y) = x", `(\@1 -> (let @2 = !M.f in (primSeq @1 (let x = @1 in (let y = @1 in x)))))`},
		// Constructors, without fields and with them, in each other: all names of one ahead of those in its fields, these from the first on.
		{"f A = 1", `(\@1 -> (let @2 = !M.f in (case @1 of { M.A -> 1; _ -> @2 })))`},
		{"f (B _ _) = 1", `(\@1 -> (let @2 = !M.f in (case @1 of { M.B @3 @4 -> 1; _ -> @2 })))`},
		{"f (B x y) = x", `(\@1 -> (let @2 = !M.f in (case @1 of { M.B @3 @4 -> (let x = @3 in (let y = @4 in x)); _ -> @2 })))`},
		{"f (C 1) = 2", `(\@1 -> (let @2 = !M.f in (case @1 of { M.C @3 -> (case (primEq @3 1) of { True -> 2; False -> @2 }); _ -> @2 })))`},
		{"f (B (B x A) (B _ (C y))) = y", `(\@1 -> (let @2 = !M.f in (case @1 of { M.B @3 @4 -> (case @3 of { M.B @5 @6 -> (let x = @5 in (case @6 of { M.A -> (case @4 of { M.B @7 @8 -> (case @8 of { M.C @9 -> (let y = @9 in y); _ -> @2 }); _ -> @2 }); _ -> @2 })); _ -> @2 }); _ -> @2 })))`},
		{"f (x : y : _) = y", `(\@1 -> (let @2 = !M.f in (case @1 of { : @3 @4 -> (let x = @3 in (case @4 of { : @5 @6 -> (let y = @5 in y); _ -> @2 })); _ -> @2 })))`},
		{"f True (C x) False = x", `(\@1 @2 @3 -> (let @4 = !M.f in (case @1 of { True -> (case @2 of { M.C @5 -> (let x = @5 in (case @3 of { False -> x; _ -> @4 })); _ -> @4 }); _ -> @4 })))`},
		// Tuples have no default, all else in them has.
		{"f () = 1", `(\@1 -> (let @2 = !M.f in (case @1 of { () -> 1 })))`},
		{"f (x, _) = x", `(\@1 -> (let @2 = !M.f in (case @1 of { (,) @3 @4 -> (let x = @3 in x) })))`},
		{"f ((), ((a, b, c), [])) = b", `(\@1 -> (let @2 = !M.f in (case @1 of { (,) @3 @4 -> (case @3 of { () -> (case @4 of { (,) @5 @6 -> (case @5 of { (,,) @7 @8 @9 -> (let a = @7 in (let b = @8 in (let c = @9 in (case @6 of { [] -> b; _ -> @2 })))) }) }) }) })))`},
		{"f (1, _, _, _, _, _, x) = x", `(\@1 -> (let @2 = !M.f in (case @1 of { (,,,,,,) @3 @4 @5 @6 @7 @8 @9 -> (case (primEq @3 1) of { True -> (let x = @9 in x); False -> @2 }) })))`},
		// Numbers, chars, strings and lists.
		{"f 0 = 1", `(\@1 -> (let @2 = !M.f in (case (primEq @1 0) of { True -> 1; False -> @2 })))`},
		{"f (-12) = 1", `(\@1 -> (let @2 = !M.f in (case (primEq @1 -12) of { True -> 1; False -> @2 })))`},
		{"f 123456789012345678901234567890 = 1", `(\@1 -> (let @2 = !M.f in (case (primEq @1 123456789012345678901234567890) of { True -> 1; False -> @2 })))`},
		{"f 'a' = 1", `(\@1 -> (let @2 = !M.f in (case (primEq (primOrd @1) 97) of { True -> 1; False -> @2 })))`},
		{"f '\\n' = 1 ; f '~' = 2", `(\@1 -> (let @2 = (let @3 = !M.f in (case (primEq (primOrd @1) 126) of { True -> 2; False -> @3 })) in (case (primEq (primOrd @1) 10) of { True -> 1; False -> @2 })))`},
		{"f \"\" = 1", `(\@1 -> (let @2 = !M.f in (case @1 of { [] -> 1; _ -> @2 })))`},
		{"f \"ab\" = 1", `(\@1 -> (let @2 = !M.f in (case @1 of { : @3 @4 -> (case (primEq (primOrd @3) 97) of { True -> (case @4 of { : @5 @6 -> (case (primEq (primOrd @5) 98) of { True -> (case @6 of { [] -> 1; _ -> @2 }); False -> @2 }); _ -> @2 }); False -> @2 }); _ -> @2 })))`},
		{"f [] = 1", `(\@1 -> (let @2 = !M.f in (case @1 of { [] -> 1; _ -> @2 })))`},
		{"f [x] = x", `(\@1 -> (let @2 = !M.f in (case @1 of { : @3 @4 -> (let x = @3 in (case @4 of { [] -> x; _ -> @2 })); _ -> @2 })))`},
		{"f [[x], y] = x", `(\@1 -> (let @2 = !M.f in (case @1 of { : @3 @4 -> (case @3 of { : @5 @6 -> (let x = @5 in (case @6 of { [] -> (case @4 of { : @7 @8 -> (let y = @7 in (case @8 of { [] -> x; _ -> @2 })); _ -> @2 }); _ -> @2 })); _ -> @2 }); _ -> @2 })))`},
	})
}

// A lazy pattern is held against the variable for each of its names; where it has none it asks for nothing.
func TestCoreOfLazyPatterns(t *testing.T) {
	checkThing(t, "data D a = A | B a (D a) ; ", [][2]string{
		{"f ~_ = 1", `(\@1 -> (let @2 = !M.f in 1))`},
		{"f ~(1, 'a', \"b\", [], A, (), ~_) = 1", `(\@1 -> (let @2 = !M.f in 1))`},
		{"f ~x = x", `(\@1 -> (let @2 = !M.f in (let x = (let @3 = !lazy in (let x = @1 in x)) in x)))`},
		{"f ~(B x _) = x", `(\@1 -> (let @2 = !M.f in (let x = (let @3 = !lazy in (case @1 of { M.B @4 @5 -> (let x = @4 in x); _ -> @3 })) in x)))`},
		{"f ~(x, y) = y", `(\@1 -> (let @2 = !M.f in (let x = (let @3 = !lazy in (case @1 of { (,) @4 @5 -> (let x = @4 in (let y = @5 in x)) })) in (let y = (let @6 = !lazy in (case @1 of { (,) @7 @8 -> (let x = @7 in (let y = @8 in y)) })) in y))))`},
		{"f ~x@(1) = x", `(\@1 -> (let @2 = !M.f in (let x = (let @3 = !lazy in (let x = @1 in (case (primEq @1 1) of { True -> x; False -> @3 }))) in x)))`},
		// By first appearance: the name of an as-pattern is ahead of those in it.
		{"f ~x@(y, z@w) = y", `(\@1 -> (let @2 = !M.f in (let x = (let @3 = !lazy in (let x = @1 in (case @1 of { (,) @4 @5 -> (let y = @4 in (let z = @5 in (let w = @5 in x))) }))) in (let y = (let @6 = !lazy in (let x = @1 in (case @1 of { (,) @7 @8 -> (let y = @7 in (let z = @8 in (let w = @8 in y))) }))) in (let z = (let @9 = !lazy in (let x = @1 in (case @1 of { (,) @10 @11 -> (let y = @10 in (let z = @11 in (let w = @11 in z))) }))) in (let w = (let @12 = !lazy in (let x = @1 in (case @1 of { (,) @13 @14 -> (let y = @13 in (let z = @14 in (let w = @14 in w))) }))) in y))))))`},
		// One in another, and a strict one in it; what follows comes behind all names.
		{"f ~(~(x)) = x", `(\@1 -> (let @2 = !M.f in (let x = (let @3 = !lazy in (let x = (let @4 = !lazy in (let x = @1 in x)) in x)) in x)))`},
		{"f ~(x, ~[y]) = 1", `(\@1 -> (let @2 = !M.f in (let x = (let @3 = !lazy in (case @1 of { (,) @4 @5 -> (let x = @4 in (let y = (let @6 = !lazy in (case @5 of { : @7 @8 -> (let y = @7 in (case @8 of { [] -> y; _ -> @6 })); _ -> @6 })) in x)) })) in (let y = (let @9 = !lazy in (case @1 of { (,) @10 @11 -> (let x = @10 in (let y = (let @12 = !lazy in (case @11 of { : @13 @14 -> (let y = @13 in (case @14 of { [] -> y; _ -> @12 })); _ -> @12 })) in y)) })) in 1))))`},
		{"f ~(!x) (B y _) = y", `(\@1 @2 -> (let @3 = !M.f in (let x = (let @4 = !lazy in (primSeq @1 (let x = @1 in x))) in (case @2 of { M.B @5 @6 -> (let y = @5 in y); _ -> @3 }))))`},
		{"f (B ~[x] A) = x", `(\@1 -> (let @2 = !M.f in (case @1 of { M.B @3 @4 -> (let x = (let @5 = !lazy in (case @3 of { : @6 @7 -> (let x = @6 in (case @7 of { [] -> x; _ -> @5 })); _ -> @5 })) in (case @4 of { M.A -> x; _ -> @2 })); _ -> @2 })))`},
		{"f !(~[x]) = x", `(\@1 -> (let @2 = !M.f in (primSeq @1 (let x = (let @3 = !lazy in (case @1 of { : @4 @5 -> (let x = @4 in (case @5 of { [] -> x; _ -> @3 })); _ -> @3 })) in x))))`},
	})
}

func TestCoreOfRightSides(t *testing.T) {
	checkThing(t, "", [][2]string{
		// Guards: behind the last one the clause fails.
		{"f x | x = 1", `(\@1 -> (let @2 = !M.f in (let x = @1 in (case x of { True -> 1; False -> @2 }))))`},
		{"f | True = 1", `(let @1 = !M.f in (case True of { True -> 1; False -> @1 }))`},
		{"f x y | x = 1 | y = 2 | True = 3", `(\@1 @2 -> (let @3 = !M.f in (let x = @1 in (let y = @2 in (case x of { True -> 1; False -> (case y of { True -> 2; False -> (case True of { True -> 3; False -> @3 }) }) })))))`},
		{"f x | x = 1 ; f _ = 2", `(\@1 -> (let @2 = (let @3 = !M.f in 2) in (let x = @1 in (case x of { True -> 1; False -> @2 }))))`},
		{"f [x] | x = 1 | primLess 1 2 = 2 ; f _ = 3", `(\@1 -> (let @2 = (let @3 = !M.f in 3) in (case @1 of { : @4 @5 -> (let x = @4 in (case @5 of { [] -> (case x of { True -> 1; False -> (case (primLess 1 2) of { True -> 2; False -> @2 }) }); _ -> @2 })); _ -> @2 })))`},
		// Of a guard what it asks comes ahead of its body, and that of the next one.
		{"f | (\\ x -> x) True = \\ y -> y | True = \\ z -> z", `(let @1 = !M.f in (case ((\@2 -> (let @3 = !lambda in (let x = @2 in x))) True) of { True -> (\@4 -> (let @5 = !lambda in (let y = @4 in y))); False -> (case True of { True -> (\@6 -> (let @7 = !lambda in (let z = @6 in z))); False -> @1 }) }))`},
		// Blocks: their things ahead of the guards and bodies, in order, whatever names what.
		{"f x = g where { g = x }", `(\@1 -> (let @2 = !M.f in (let x = @1 in (let g = (let @3 = !g in x) in g))))`},
		{"f x | g = h | True = x where { h = g ; g = True }", `(\@1 -> (let @2 = !M.f in (let x = @1 in (let h = (let @3 = !h in g); g = (let @4 = !g in True) in (case g of { True -> h; False -> (case True of { True -> x; False -> @2 }) })))))`},
		{"f = g 1 where { g 0 = h 1 ; g _ = h 0 ; h x = g x }", `(let @1 = !M.f in (let g = (\@2 -> (let @3 = (let @4 = !g in (h 0)) in (case (primEq @2 0) of { True -> (h 1); False -> @3 }))); h = (\@5 -> (let @6 = !h in (let x = @5 in (g x)))) in (g 1)))`},
		{"f x = 1 where { g :: Int ; g = 2 ; infixl 3 + }", `(\@1 -> (let @2 = !M.f in (let x = @1 in (let g = (let @3 = !g in 2) in 1))))`},
		{"f x = 1 where { infixl 3 + }", `(\@1 -> (let @2 = !M.f in (let x = @1 in 1)))`},
		{"f = let { x = 1 ; y = x } in y", `(let @1 = !M.f in (let x = (let @2 = !x in 1); y = (let @3 = !y in x) in y))`},
		{"f = let { } in 1", `(let @1 = !M.f in 1)`},
		{"f = let { g (x, 1) | x = 2 ; g _ = 3 } in let { h = g } in h", `(let @1 = !M.f in (let g = (\@2 -> (let @3 = (let @4 = !g in 3) in (case @2 of { (,) @5 @6 -> (let x = @5 in (case (primEq @6 1) of { True -> (case x of { True -> 2; False -> @3 }); False -> @3 })) }))) in (let h = (let @7 = !h in g) in h)))`},
		// A block in a block, of a thing in it and behind it.
		{"f = g where { g = h where { h = 1 } ; i = 2 }", `(let @1 = !M.f in (let g = (let @2 = !g in (let h = (let @3 = !h in 1) in h)); i = (let @4 = !i in 2) in g))`},
		// A name of a block hides that of a pattern, and of a block around.
		{"f x = x where { x = 1 }", `(\@1 -> (let @2 = !M.f in (let x = @1 in (let x = (let @3 = !x in 1) in x))))`},
		{"f = let { x = 1 } in let { x = 2 } in x", `(let @1 = !M.f in (let x = (let @2 = !x in 1) in (let x = (let @3 = !x in 2) in x)))`},
		{"f = let { (+) x y = x ; infixl 2 + } in 1 + 2", `(let @1 = !M.f in (let + = (\@2 @3 -> (let @4 = !+ in (let x = @2 in (let y = @3 in x)))) in (+ 1 2)))`},
	})
}

func TestCoreOfAlternatives(t *testing.T) {
	checkThing(t, "", [][2]string{
		{"f = case 1 of { _ -> 2 }", `(let @1 = !M.f in (let @2 = 1 in (let @3 = !case in 2)))`},
		{"f x = case x of { [] -> 1 ; [y] -> y ; z -> 2 }", `(\@1 -> (let @2 = !M.f in (let x = @1 in (let @3 = x in (let @4 = (let @5 = (let @6 = !case in (let z = @3 in 2)) in (case @3 of { : @7 @8 -> (let y = @7 in (case @8 of { [] -> y; _ -> @5 })); _ -> @5 })) in (case @3 of { [] -> 1; _ -> @4 }))))))`},
		// What is looked at comes behind its name and ahead of the alternatives.
		{"f = case \\ x -> x of { g -> g 1 }", `(let @1 = !M.f in (let @2 = (\@3 -> (let @4 = !lambda in (let x = @3 in x))) in (let @5 = !case in (let g = @2 in (g 1)))))`},
		{"f = case case 1 of { x -> x } of { y -> y }", `(let @1 = !M.f in (let @2 = (let @3 = 1 in (let @4 = !case in (let x = @3 in x))) in (let @5 = !case in (let y = @2 in y))))`},
		// Guards and blocks of alternatives; what fails goes to the next one, not to the next clause.
		{"f x = case x of { y | y -> 1 | z -> 2 where { z = y } ; False -> 3 } ; f _ = 4", `(\@1 -> (let @2 = (let @3 = !M.f in 4) in (let x = @1 in (let @4 = x in (let @5 = (let @6 = !case in (case @4 of { False -> 3; _ -> @6 })) in (let y = @4 in (let z = (let @7 = !z in y) in (case y of { True -> 1; False -> (case z of { True -> 2; False -> @5 }) }))))))))`},
		// Lambdas: of one pattern and more, of such as may fail.
		{"f = \\ x -> x", `(let @1 = !M.f in (\@2 -> (let @3 = !lambda in (let x = @2 in x))))`},
		{"f = \\ _ y -> y", `(let @1 = !M.f in (\@2 @3 -> (let @4 = !lambda in (let y = @3 in y))))`},
		{"f = \\ x -> \\ y -> x", `(let @1 = !M.f in (\@2 -> (let @3 = !lambda in (let x = @2 in (\@4 -> (let @5 = !lambda in (let y = @4 in x)))))))`},
		{"f = \\ 1 (x : _) 'c' -> x", `(let @1 = !M.f in (\@2 @3 @4 -> (let @5 = !lambda in (case (primEq @2 1) of { True -> (case @3 of { : @6 @7 -> (let x = @6 in (case (primEq (primOrd @4) 99) of { True -> x; False -> @5 })); _ -> @5 }); False -> @5 }))))`},
		{"f = \\ ~(x, y) -> x", `(let @1 = !M.f in (\@2 -> (let @3 = !lambda in (let x = (let @4 = !lazy in (case @2 of { (,) @5 @6 -> (let x = @5 in (let y = @6 in x)) })) in (let y = (let @7 = !lazy in (case @2 of { (,) @8 @9 -> (let x = @8 in (let y = @9 in y)) })) in x)))))`},
	})
}

func TestCoreOfPrims(t *testing.T) {
	checkThing(t, "", [][2]string{
		// Alone; with fewer, as many and more arguments than they take.
		{"f = primAdd", `(let @1 = !M.f in (\@2 @3 -> (primAdd @2 @3)))`},
		{"f = primAdd 1", `(let @1 = !M.f in ((\@2 @3 -> (primAdd @2 @3)) 1))`},
		{"f = primAdd 1 2", `(let @1 = !M.f in (primAdd 1 2))`},
		{"f = primSeq 1 primAdd 2 3", `(let @1 = !M.f in ((primSeq 1 (\@2 @3 -> (primAdd @2 @3))) 2 3))`},
		{"f = primError \"a\"", `(let @1 = !M.f in (primError "a"))`},
		{"f = primError \"\" 1 2", `(let @1 = !M.f in ((primError []) 1 2))`},
		{"f = primError", `(let @1 = !M.f in (\@2 -> (primError @2)))`},
		{"f = [primSub, primMul, primDiv, primMod]", `(let @1 = !M.f in (: (\@2 @3 -> (primSub @2 @3)) (: (\@4 @5 -> (primMul @4 @5)) (: (\@6 @7 -> (primDiv @6 @7)) (: (\@8 @9 -> (primMod @8 @9)) [])))))`},
		{"f = (primEq, primLess, primOrd, primChr, primShow)", `(let @1 = !M.f in ((,,,,) (\@2 @3 -> (primEq @2 @3)) (\@4 @5 -> (primLess @4 @5)) (\@6 -> (primOrd @6)) (\@7 -> (primChr @7)) (\@8 -> (primShow @8))))`},
		{"f = primShow (primOrd 'a')", `(let @1 = !M.f in (primShow (primOrd 'a')))`},
		// An application of an application has the arguments of each apart.
		{"f = (primAdd 1) 2", `(let @1 = !M.f in (((\@2 @3 -> (primAdd @2 @3)) 1) 2))`},
		// New names of what is applied come ahead of those of the arguments.
		{"f = primSeq (\\ x -> x)", `(let @1 = !M.f in ((\@2 @3 -> (primSeq @2 @3)) (\@4 -> (let @5 = !lambda in (let x = @4 in x)))))`},
		{"f = primSeq (\\ x -> x) 1", `(let @1 = !M.f in (primSeq (\@2 -> (let @3 = !lambda in (let x = @2 in x))) 1))`},
		// primAppend and negate are no prims.
		{"f = primAppend", `(let @1 = !M.f in primAppend)`},
		{"f = primAppend \"a\" \"b\"", `(let @1 = !M.f in (primAppend "a" "b"))`},
		{"f = - 1", `(let @1 = !M.f in (negate 1))`},
		{"f = negate", `(let @1 = !M.f in negate)`},
		// Something around binds or defines the name.
		{"f primAdd = primAdd", `(\@1 -> (let @2 = !M.f in (let primAdd = @1 in primAdd)))`},
		{"f primAdd = primAdd 1 2", `(\@1 -> (let @2 = !M.f in (let primAdd = @1 in (primAdd 1 2))))`},
		{"f primAdd@_ [~(primSub, !primMul)] = (primAdd 1 2, primSub, primMul)", `(\@1 @2 -> (let @3 = !M.f in (let primAdd = @1 in (case @2 of { : @4 @5 -> (let primSub = (let @6 = !lazy in (case @4 of { (,) @7 @8 -> (let primSub = @7 in (primSeq @8 (let primMul = @8 in primSub))) })) in (let primMul = (let @9 = !lazy in (case @4 of { (,) @10 @11 -> (let primSub = @10 in (primSeq @11 (let primMul = @11 in primMul))) })) in (case @5 of { [] -> ((,,) (primAdd 1 2) primSub primMul); _ -> @3 }))); _ -> @3 }))))`},
		{"f = let { primAdd x = primAdd x } in primAdd", `(let @1 = !M.f in (let primAdd = (\@2 -> (let @3 = !primAdd in (let x = @2 in (primAdd x)))) in primAdd))`},
		{"f x | primOrd = primShow 1 where { primOrd = x ; g = primOrd ; primShow y = primChr y }", `(\@1 -> (let @2 = !M.f in (let x = @1 in (let primOrd = (let @3 = !primOrd in x); g = (let @4 = !g in primOrd); primShow = (\@5 -> (let @6 = !primShow in (let y = @5 in (primChr y)))) in (case primOrd of { True -> (primShow 1); False -> @2 })))))`},
		{"f = (\\ primAdd -> primAdd 1, primAdd 1 2)", `(let @1 = !M.f in ((,) (\@2 -> (let @3 = !lambda in (let primAdd = @2 in (primAdd 1)))) (primAdd 1 2)))`},
		{"f x = case primOrd x of { primOrd | primEq 1 primOrd -> primOrd ; 2 -> primOrd 'a' }", `(\@1 -> (let @2 = !M.f in (let x = @1 in (let @3 = (primOrd x) in (let @4 = (let @5 = !case in (case (primEq @3 2) of { True -> (primOrd 'a'); False -> @5 })) in (let primOrd = @3 in (case (primEq 1 primOrd) of { True -> primOrd; False -> @4 })))))))`},
		{"f = (let { primAdd = 1 } in primAdd, primAdd)", `(let @1 = !M.f in ((,) (let primAdd = (let @2 = !primAdd in 1) in primAdd) (\@3 @4 -> (primAdd @3 @4))))`},
		{"f x = [primAdd | primAdd <- [primAdd x 1], primLess primAdd 1, primLess <- [primAdd]]", `(\@1 -> (let @2 = !M.f in (let x = @1 in (let @3 = (\@4 -> (case @4 of { [] -> []; : @5 @6 -> (let @7 = (@3 @6) in (let primAdd = @5 in (case (primLess primAdd 1) of { True -> (let @8 = (\@9 -> (case @9 of { [] -> @7; : @10 @11 -> (let @12 = (@8 @11) in (let primLess = @10 in (: primAdd @12))) })) in (@8 (: primAdd []))); False -> @7 }))) })) in (@3 (: (primAdd x 1) []))))))`},
		{"f = let { negate x = x } in - 'a'", `(let @1 = !M.f in (let negate = (\@2 -> (let @3 = !negate in (let x = @2 in x))) in (negate 'a')))`},
	})
}

func TestCoreOfBoundPrimsByKind(t *testing.T) {
	list := modulesOf(t, "module M where { f primAdd = primAdd 1 2 ; g = primAdd 1 2 ; h primAdd = primAdd }")
	c := checkSugar(t, list, "M.f")
	for i, want := range []int64{impl.CApp, impl.CPrim, impl.CVar} {
		body := c.Kids[i]
		for body.Kind == impl.CLam || body.Kind == impl.CLet {
			body = body.Kids[len(body.Kids)-1]
		}
		if body.Kind != want {
			t.Errorf("%s is of the kind %d, not %d", impl.FormatCore(body), body.Kind, want)
		}
	}
}
