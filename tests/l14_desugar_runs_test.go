package tests

import (
	"slices"
	"testing"

	"loop.example/g00017/impl"
)

// checkRun compares the text of M.f with what it is by its core, and by its clauses.
func checkRun(t *testing.T, what string, list []impl.Node, want string) {
	t.Helper()
	checkSugar(t, list, "M.f")
	p := runProgramOf(list, "M.f")
	if got := p.byCore("M.f", (*runner).tellChars); got != want {
		t.Errorf("%s\ntells %q, not %q", what, got, want)
	}
	if got := p.byClauses("M.f", (*runner).tellChars); got != want {
		t.Errorf("%s\ntells %q by its clauses, not %q", what, got, want)
	}
	if got := meantTold(impl.Meaning(p.core, 1, "", runSteps)); got != want {
		t.Errorf("%s\nmeans %q, not %q", what, got, want)
	}
}

func checkRuns(t *testing.T, ahead string, rows [][2]string) {
	t.Helper()
	for _, row := range rows {
		checkRun(t, row[0], inModule(t, ahead+row[0]), row[1])
	}
}

func TestWhichAlternativeIsTaken(t *testing.T) {
	checkRuns(t, "data D = A | B Int D | C ; bad = primError \"bad\" ; ", [][2]string{
		// The first that matches, whatever is behind it.
		{"f = g 1 ; g 1 = \"a\" ; g 1 = \"b\" ; g _ = \"c\"", "a"},
		{"f = g 2 ; g 1 = \"a\" ; g _ = \"b\" ; g 2 = \"c\"", "b"},
		{"f = g 1 2 ; g 1 1 = \"a\" ; g 2 _ = \"b\" ; g _ 2 = \"c\"", "c"},
		{"f = g (B 1 (B 2 C)) ; g (B _ A) = \"a\" ; g (B 1 (B 3 _)) = \"b\" ; g (B _ (B _ C)) = \"c\" ; g _ = \"d\"", "c"},
		{"f = case (1, 'b') of { (2, _) -> \"a\" ; (_, 'a') -> \"b\" ; (1, 'b') -> \"c\" }", "c"},
		{"f = [g \"ab\", g \"a\", g \"\", g \"abc\"] ; g \"ab\" = '1' ; g \"\" = '2' ; g ['a'] = '3' ; g _ = '4'", "1324"},
		{"f = [g (-1), g 1, g 0] ; g 0 = 'a' ; g (-1) = 'b' ; g 1 = 'c'", "bca"},
		// Guards: the first that holds; if none does, the next clause, within the same things.
		{"f = [g 1, g 2, g 3] ; g x | primEq x 1 = 'a' | primEq x 2 = 'b' ; g _ = 'c'", "abc"},
		{"f = [g 1 2, g 2 2, g 3 3] ; g x y | z = 'a' | primEq x 2 = 'b' where { z = primLess x y } ; g 3 _ = 'c'", "abc"},
		{"f = case 1 of { x | primEq x 2 -> \"a\" ; 1 | False -> \"b\" | True -> \"c\" ; _ -> \"d\" }", "c"},
		// No match in alternatives is none of the clause around.
		{"f = g 1 ; g x = case x of { 2 -> \"a\" } ; g _ = \"b\"", "!no match in case"},
		{"f = g 1 ; g x | case x of { 2 -> True } = \"a\" ; g _ = \"b\"", "!no match in case"},
		// What is said where none matches.
		{"f = 'a' : g 1 ; g 2 = \"b\"", "a!no match in M.g"},
		{"f = 'a' : h 1 where { h 2 = \"b\" }", "a!no match in h"},
		{"f = let { h x | False = \"b\" } in 'a' : h 1", "a!no match in h"},
		{"f | False = \"a\"", "!no match in M.f"},
		{"f = 'a' : (\\ 1 -> \"b\") 2", "a!no match in lambda"},
		{"f = 'a' : (\\ 1 'a' -> \"b\") 1 'b'", "a!no match in lambda"},
		{"f = case 1 of { 2 -> \"b\" }", "!no match in case"},
		{"f = g [] ; g ~(x : _) = 'a' : [x]", "a!no match in lazy"},
		{"f = g [] ; g ~(x : _) = \"a\"", "a"},
		{"f = (\\ ~[x] -> [x]) \"ab\"", "!no match in lazy"},
		{"class K a where { m :: a -> [Char] } ; instance K Int where { m 1 = \"a\" } ; f = primAppend (m 1) (m 2)", "a!no match in m:M.m"},
		// Patterns from the first on, what is in one from the left: what fails ahead hides an error behind.
		{"f = g 1 bad ; g 2 'a' = \"a\" ; g 1 _ = \"b\"", "b"},
		{"f = g bad 1 ; g 'a' 2 = \"a\" ; g _ 1 = \"b\"", "!bad"},
		{"f = g (1, bad) ; g (2, 'a') = \"a\" ; g _ = \"b\"", "b"},
		{"f = g (bad, 1) ; g ('a', 2) = \"a\" ; g _ = \"b\"", "!bad"},
		{"f = g (bad : bad) ; g [] = \"a\" ; g (_ : _) = \"b\"", "b"},
		{"f = g (1 : bad) ; g [2] = \"a\" ; g [_] = \"b\"", "!bad"},
		{"f = g (B 1 bad) ; g (B 2 A) = \"a\" ; g (B x y) = primShow x", "1"},
		// What is not asked for is not worked out; what is strict is.
		{"f = g bad ; g x = \"a\"", "a"},
		{"f = g bad ; g x@_ = \"a\"", "a"},
		{"f = g bad ; g !x = \"a\"", "!bad"},
		{"f = g bad ; g !_ = \"a\"", "!bad"},
		{"f = g (bad, 1) ; g !(x, y) = primShow y", "1"},
		{"f = g bad ; g (x, y) = \"a\"", "!bad"},
		{"f = g bad ; g () = \"a\"", "!bad"},
		{"f = g bad ; g ~(x, y) = \"a\"", "a"},
		{"f = g bad ; g ~(!x) = \"a\"", "a"},
		{"f = g (1, bad) ; g ~(x, ~(!y)) = primShow x", "1"},
		{"f = g (1, bad) ; g ~(x, !y) = primShow x", "!bad"},
		{"f = g bad 1 ; g ~x@[_] y = primShow y", "1"},
		{"f = g \"a\" ; g ~x@[_, _] = x", "!no match in lazy"},
		{"f = (\\ _ -> \"a\") bad", "a"},
		{"f = case bad of { _ -> \"a\" }", "a"},
		{"f = case bad of { !_ -> \"a\" }", "!bad"},
		{"f = let { x = bad } in \"a\"", "a"},
		{"f = primSeq (\\ x -> bad) \"a\"", "a"},
		{"f = primSeq (primAdd bad) \"a\"", "a"},
		{"f = primSeq (B bad) (primSeq (B bad bad) \"a\")", "a"},
	})
}

func TestWhatProgramsTell(t *testing.T) {
	const ahead = "show' [] = [] ; show' (x : xs) = primAppend (primShow x) (' ' : show' xs) ; "
	checkRuns(t, ahead, [][2]string{
		{"f = show' [1 .. 5]", "1 2 3 4 5 "},
		{"f = show' [3 .. 3]", "3 "},
		{"f = show' [4 .. 3]", ""},
		{"f = show' (take 3 [1 .. primError \"end\"]) ; take 0 _ = [] ; take n (x : xs) = x : take (primSub n 1) xs", "!end"},
		{"f = show' [x | x <- [1 .. 9], primEq (primMod x 3) 0]", "3 6 9 "},
		{"f = show' [primAdd (primMul 10 x) y | x <- [1 .. 3], y <- [x .. 3]]", "11 12 13 22 23 33 "},
		{"f = show' [x | (1, x) <- [(1, 2), (3, 4), (1, 5)]]", "2 5 "},
		{"f = show' [x | [x] <- [[1], [], [2, 3], [4]], primLess x 4, _ <- \"ab\"]", "1 1 "},
		{"f = show' [x | False, x <- primError \"source\"]", ""},
		{"f = show' [x | x <- [1, 2], x <- [x, primNegate x]] ; primNegate x = - x", "1 -1 2 -2 "},
		{"f = [c | cs <- [\"ab\", \"\", \"c\"], c <- [d | d <- cs]]", "abc"},
		{"f = show' [y | ~(x, y) <- [(1, 2)], True, y <- [x, y]]", "1 2 "},
		{"f = show' (primAppend [1] (primAppend [] [2, 3]))", "1 2 3 "},
		{"f = primShow (primAdd (- 5) (negate 3))", "-8"},
		{"f = show' [g 3, g 4] where { g 0 = 1 ; g n = primMul n (g (primSub n 1)) }", "6 24 "},
		{"f = h 6 where { h 0 = \"even\" ; h n = o (primSub n 1) ; o 0 = \"odd\" ; o n = h (primSub n 1) }", "even"},
		{"f = show' (let { xs = 1 : ys ; ys = 2 : take 3 xs ; take 0 _ = [] ; take n (x : r) = x : take (primSub n 1) r } in xs)", "1 2 1 2 1 "},
		{"f = primShow (twice (primAdd 1) 5) ; twice g = \\ x -> g (g x)", "7"},
		{"f = primShow (foldr' primAdd 0 [1, 2, 3]) ; foldr' _ z [] = z ; foldr' g z (x : xs) = g x (foldr' g z xs)", "6"},
		{"f = [primChr (primAdd (primOrd 'a') n) | n <- [0 .. 3]]", "abcd"},
		{"f = primSeq 1 primAppend \"a\" \"b\"", "ab"},
		{"f = 'x' : primError \"stop\" 1 2", "x!stop"},
		{"f = g 1 where { g primShow = case primShow of { 1 -> \"bound\" } }", "bound"},
		{"f = x where { x = 'a' : y ; y = 'b' : x }", "?"},
		{"f = let { x = x } in x", "?"},
	})
}

func TestWhatProgramsWithClassesTell(t *testing.T) {
	const base = "module P where { class Eq a where { (==) :: a -> a -> Bool } ; class Eq a => Ord a where { (<=) :: a -> a -> Bool } ; class Show a where { show :: a -> [Char] } ; infix 4 == ; infix 4 <= ; instance Eq Int where { (==) = primEq } ; instance Ord Int where { x <= y = if primLess y x then False else True } ; instance Show Int where { show = primShow } ; instance Show Bool where { show True = \"yes\" ; show False = \"no\" } ; instance (Show a) => Show [a] where { show [] = \"\" ; show (x : xs) = primAppend (show x) (primAppend \";\" (show xs)) } ; instance (Show a, Show b) => Show (a, b) where { show (x, y) = primAppend (show x) (primAppend \"&\" (show y)) } } "
	for _, row := range [][2]string{
		{"f = show [(1, True), (2, False)]", "1&yes;2&no;"},
		{"data T a = L | N (T a) a deriving (Eq, Ord, Show) ; f = primAppend (show (N (N L 1) 2)) (show [N L True])", "(N (N L 1) 2)(N L yes);"},
		{"data T a = L | N (T a) a deriving (Eq, Ord, Show) ; f = show [x == y | x <- ts, y <- ts] ; ts = [L, N L 1, N (N L 1) 1]", "yes;no;no;no;yes;no;no;no;yes;"},
		{"data T a = L | N (T a) a deriving (Eq, Ord, Show) ; f = show [x <= y | x <- ts, y <- ts] ; ts = [L, N L 1, N L 2]", "yes;yes;yes;no;yes;yes;no;no;yes;"},
		{"g x y = if x == y then \"same\" else if x <= y then \"less\" else \"more\" ; f = primAppend (g 1 1) (primAppend (g 1 2) (g 2 1))", "samelessmore"},
		{"f = g 3 where { g x = if x == x then h x x else \"\" ; h x y = if x <= y then show y else \"\" }", "3"},
		{"class C a where { c :: Show b => a -> b -> [Char] } ; instance C Int where { c x y = primAppend (show x) (show y) } ; instance C a => C [a] where { c [] y = show y ; c (x : xs) y = primAppend (c x y) (c xs [y]) } ; f = c [1, 2] True", "1yes2yes;yes;;"},
		{"class (Show a, Ord a) => C a where { } ; instance C Int where { } ; g :: C a => a -> a -> [Char] ; g x y = if x <= y then show x else if x == y then \"\" else show y ; f = primAppend (g 1 2) (g 5 4)", "14"},
	} {
		list := modulesOf(t, base+"module M where { import P ; "+row[0]+" }")
		slices.Reverse(list)
		checkRun(t, row[0], list, row[1])
	}
}
