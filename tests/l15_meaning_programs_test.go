package tests

import (
	"math/rand/v2"
	"slices"
	"strconv"
	"strings"
	"testing"

	"loop.example/g00017/impl"
)

const listModule = `module List where
infixr 5 ++
xs ++ ys = primAppend xs ys
map f [] = []
map f (x : xs) = f x : map f xs
filter p [] = []
filter p (x : xs) | p x = x : filter p xs
                  | True = filter p xs
take 0 _ = []
take _ [] = []
take n (x : xs) = x : take (primSub n 1) xs
foldl f z [] = z
foldl f z (x : xs) = f z x ` + "`seq`" + ` foldl f (f z x) xs
seq = primSeq
foldr f z [] = z
foldr f z (x : xs) = f x (foldr f z xs)
zipWith f (x : xs) (y : ys) = f x y : zipWith f xs ys
zipWith _ _ _ = []
reverse = foldl (\xs x -> x : xs) []
concat = foldr primAppend []
lines [] = []
lines s = case split s of
  (l, r) -> l : lines r
split [] = ([], [])
split ('\n' : r) = ([], r)
split (c : r) = case split r of
  (l, s) -> (c : l, s)
`

const classModule = `module Class where
import List
infix 4 ==
infix 4 <=
class Eq a where
  (==) :: a -> a -> Bool
class Eq a => Ord a where
  (<=) :: a -> a -> Bool
class Show a where
  show :: a -> [Char]
instance Eq Int where
  (==) = primEq
instance Ord Int where
  x <= y = if primLess y x then False else True
instance Show Int where
  show = primShow
instance Show Bool where
  show True = "True"
  show False = "False"
instance Show a => Show [a] where
  show xs = "[" ++ inner xs ++ "]" where
    inner [] = ""
    inner [x] = show x
    inner (x : xs) = show x ++ "," ++ inner xs
data Tree a = Leaf | Node (Tree a) a (Tree a) deriving (Eq, Ord, Show)
insert x Leaf = Node Leaf x Leaf
insert x t@(Node l y r)
  | x == y = t
  | x <= y = Node (insert x l) y r
  | True = Node l y (insert x r)
flat Leaf = []
flat (Node l x r) = flat l ++ x : flat r
`

// programCore has the core of a program of three modules, with the mode that its main asks for.
func programCore(t *testing.T, main string) (impl.Core, int64) {
	t.Helper()
	var list []impl.Node
	for _, text := range []string{"module Main where\nimport List\nimport Class\n" + main, listModule, classModule} {
		read := impl.ParseText(text)
		if read.Code != 0 {
			t.Fatalf("code %d: %s", read.Code, text)
		}
		list = append(list, read.Tree)
	}
	inferred := impl.InferProgram(list)
	c := impl.CoreOf(list, "Main.main")
	if inferred.Code != 0 || c.Kind == 0 {
		t.Fatalf("code %d %q: %s", inferred.Code, inferred.Name, main)
	}
	return c, impl.MainKind(inferred)
}

func numbersTold(list []int) string {
	var words []string
	for _, v := range list {
		words = append(words, strconv.Itoa(v))
	}
	return "[" + strings.Join(words, ",") + "]"
}

func primesUpTo(count int) []int {
	var list []int
	for n := 2; len(list) < count; n++ {
		if !slices.ContainsFunc(list, func(p int) bool { return n%p == 0 }) {
			list = append(list, n)
		}
	}
	return list
}

// A toldProgram is a main module with what is told of it.
type toldProgram struct {
	main, input string
	want        impl.Outcome
}

func toldPrograms() []toldProgram {
	done := func(out string) impl.Outcome { return impl.Outcome{Out: out} }
	fibs := []int{0, 1}
	for len(fibs) < 25 {
		fibs = append(fibs, fibs[len(fibs)-1]+fibs[len(fibs)-2])
	}
	return []toldProgram{
		{"main = \"hello\"", "", done("hello")},
		{"main = show (take 30 (sieve (from 2)))\nfrom n = n : from (primAdd n 1)\nsieve (p : xs) = p : sieve [x | x <- xs, if primEq (primMod x p) 0 then False else True]", "", done(numbersTold(primesUpTo(30)))},
		{"main = show (take 25 fibs)\nfibs = 0 : 1 : zipWith primAdd fibs (tail fibs)\ntail (_ : xs) = xs", "", done(numbersTold(fibs))},
		{"main = show (foldl primAdd 0 [1 .. 1000])", "", done("500500")},
		{"main = show (foldl primMul 1 [1 .. 25])", "", done("15511210043330985984000000")},
		{"main = show (flat (foldr insert Leaf [5, 3, 9, 1, 5, 7]))", "", done("[1,3,5,7,9]")},
		{"main = show (foldr insert Leaf [2, 1])", "", done("(Node Leaf 1 (Node Leaf 2 Leaf))")},
		{"main = show [x <= y | x <- ts, y <- ts]\nts = [Leaf, insert 1 Leaf, insert 2 Leaf]", "", done("[True,True,True,False,True,True,False,False,True]")},
		{"main = concat (map (\\q -> show q ++ \"\\n\") (take 2 (queens 6)))\nqueens 0 = [[]]\nqueens k = [q : qs | qs <- queens (primSub k 1), q <- [1 .. 6], safe q qs 1]\nsafe _ [] _ = True\nsafe q (x : xs) d\n  | primEq q x = False\n  | primEq (primAdd q d) x = False\n  | primEq (primSub q d) x = False\n  | True = safe q xs (primAdd d 1)", "", done("[5,3,1,6,4,2]\n[4,1,5,2,6,3]\n")},
		{"main :: [Char] -> [Char]\nmain s = reverse s", "abc", done("cba")},
		{"main = map up\nup c | primLess (primOrd c) 97 = c\n     | primLess 122 (primOrd c) = c\n     | True = primChr (primSub (primOrd c) 32)", "Hello, world 1!", done("HELLO, WORLD 1!")},
		{"main s = concat (map (\\l -> reverse l ++ \"\\n\") (lines s))", "one\ntwo\nthree\n", done("eno\nowt\neerht\n")},
		{"main s = show (foldl (\\n _ -> primAdd n 1) 0 (lines s))", strings.Repeat("line\n", 200), done("200")},
		{"main :: [Char] -> [Char]\nmain s = \"first\"", "", done("first")},
		{"main :: [Char] -> [Char]\nmain s = s", "", done("")},
		// Ends that are none of the program's own, or its errors, with what was told ahead.
		{"main = 'a' : 'b' : head []\nhead (x : _) = x", "", impl.Outcome{End: impl.EndError, Out: "ab", Error: "no match in Main.head"}},
		{"main :: [Char] -> [Char]\nmain s = s ++ primError (\"at \" ++ show (primAdd 1 1))", "told", impl.Outcome{End: impl.EndError, Out: "told", Error: "at 2"}},
		{"main = \"x\" ++ show (primDiv 1 (primSub 3 3))", "", impl.Outcome{End: impl.EndError, Out: "x", Error: "division by zero"}},
		{"main = \"x\" ++ show (fib 40)\nfib 0 = 0\nfib 1 = 1\nfib n = primAdd (fib (primSub n 1)) (fib (primSub n 2))", "", impl.Outcome{End: impl.EndSteps, Out: "x", Steps: impl.MaxSteps}},
		{"main = \"x\" ++ show (pow 12)\npow 0 = 2\npow n = let h = pow (primSub n 1) in primMul h h", "", impl.Outcome{End: impl.EndError, Out: "x", Error: "too large"}},
		{"main = let { x = 'a' : y ; y = 'b' : x } in x", "", impl.Outcome{End: impl.EndOut, Out: strings.Repeat("ab", impl.MaxOut/2)}},
		{"main = \"x\" ++ y\ny = \"\" ++ y", "", impl.Outcome{End: impl.EndLoop, Out: "x"}},
		{"main = \"x\" ++ show (sum [1 .. 30000])\nsum [] = 0\nsum (x : xs) = primAdd x (sum xs)", "", impl.Outcome{End: impl.EndDeep, Out: "x"}},
	}
}

func TestWhatWholeProgramsMean(t *testing.T) {
	t.Parallel()
	for _, p := range toldPrograms() {
		c, mode := programCore(t, p.main)
		got := impl.Meaning(c, mode, p.input, impl.MaxSteps)
		want := p.want
		if want.Steps == 0 {
			want.Steps = got.Steps
		}
		if got != want || mode == 0 {
			t.Errorf("%s\ntells %.200q %q, end %d in %d steps, mode %d", p.main, got.Out, got.Error, got.End, got.Steps, mode)
		}
		if got.Steps < 20000 {
			checkRuns17(t, c, mode, p.input, impl.MaxSteps)
		} else {
			checkSteps(t, c, mode, p.input, impl.MaxSteps, got)
		}
	}
}

// meantTold has what a run tells as told has it: what was told, "!" and the text of an error; "?" if it does not end.
func meantTold(o impl.Outcome) string {
	switch o.End {
	case impl.EndDone:
		return o.Out
	case impl.EndError:
		return o.Out + "!" + o.Error
	case impl.EndStuck:
		return o.Out + " stuck"
	}
	return "?"
}

const listShown = `(let app = (\a b -> (case a of { [] -> b; : x y -> (: x (app y b)) })); go = (\l -> (case l of { [] -> "."; : h r -> (app (primShow h) (: ',' (go r))) })); both = (\a b -> (app (primShow a) (go b))) in $)`

// shownCore has the text of something by the letter of its type.
func shownCore(letter string, c impl.Core) impl.Core {
	made := readCore(strings.Replace(listShown, "$", map[string]string{
		"I": `(primShow it)`, "B": `(case it of { True -> "T"; False -> "F" })`, "L": `(go it)`,
		"P": `(case it of { P a b -> (app (primShow a) (case b of { True -> "T"; False -> "F" })) })`,
		"D": `(case it of { M.A -> "A"; M.C a b -> (both a b) })`,
	}[letter], 1))
	for _, part := range coreParts(&made) {
		for i := range part.Alts {
			if part.Alts[i].Con == "P" {
				part.Alts[i].Con = "(,)"
			}
		}
	}
	return coreLet("it", c, made)
}

// tellShown writes the same of a value.
func tellShown(letter string) func(*runner, *strings.Builder, runValue) {
	return func(r *runner, out *strings.Builder, v runValue) {
		inner := func(letter string, cell *runCell) { tellShown(letter)(r, out, cell.force()) }
		switch letter {
		case "I":
			out.WriteString(v.number.String())
		case "B":
			out.WriteString(v.con[:1])
		case "L":
			for ; v.con == ":"; v = v.fields[1].force() {
				r.tick()
				inner("I", v.fields[0])
				out.WriteString(",")
			}
			out.WriteString(".")
		case "P":
			inner("I", v.fields[0])
			inner("B", v.fields[1])
		case "D":
			if v.con == "M.A" {
				out.WriteString("A")
				return
			}
			inner("I", v.fields[0])
			inner("L", v.fields[1])
		}
	}
}

// letterOf has the letter of a type.
func letterOf(s impl.Scheme) string {
	return map[string]string{"Int": "I", "Bool": "B", "[Int]": "L", "(Int, Bool)": "P", "D": "D"}[impl.FormatScheme(s)]
}

// Drawn programs tell what their clauses mean, as they are written, and never get stuck.
func TestDrawnProgramsTellWhatTheyMean(t *testing.T) {
	t.Parallel()
	m := &runMaker{Rand: rand.New(rand.NewPCG(15, 1))}
	seen := map[string]int{}
	for range 40 {
		list := []impl.Node{parsed(t, m.module(5, 12))}
		p := runProgramOf(list, "M.f6")
		for i, typed := range impl.InferProgram(list).Types[5:] {
			letter := letterOf(typed.Scheme)
			if letter == "" { // a more general type, as that of an error
				continue
			}
			c := p.core
			c.Kids = slices.Clone(c.Kids)
			c.Kids[len(c.Kids)-1] = shownCore(letter, coreVar(typed.Name))
			run := impl.Meaning(c, 1, "", 20000)
			if i%6 == 0 {
				checkSteps(t, c, 1, "", 20000, run)
			}
			got := meantTold(run)
			if want := p.byClauses(typed.Name, tellShown(letter)); got != want && got != "?" {
				t.Errorf("%s\n%s tells %q, not %q", impl.Print(list[0]), typed.Name, got, want)
			}
			_, why, isError := strings.Cut(got, "!")
			switch {
			case isError:
				seen["error"]++
				seen[why]++
			case got == "?":
				seen["?"]++
			default:
				seen[letter]++
			}
		}
	}
	for _, what := range []string{"I", "B", "L", "P", "D", "error", "division by zero", "no match in case", "no match in lambda"} {
		if seen[what] < 3 {
			t.Errorf("%s: %d of %v", what, seen[what], seen)
		}
	}
}
