package tests

import (
	"fmt"
	"slices"
	"strings"
	"testing"

	"loop.example/g00017/impl"
)

// toldTexts has a main module with the two that it may import, the last one first.
func toldTexts(main string) []string {
	return []string{"module Main where\nimport List\nimport Class\n" + main + "\n", classModule, listModule}
}

// hasNoRoom says whether a run ends for want of steps, waiting room or heap.
func hasNoRoom(o impl.Outcome) bool {
	return o.End == impl.EndSteps || o.End == impl.EndDeep || o.End == impl.EndHeap
}

func shortOutcome(o impl.Outcome) string { return shortRun(impl.RunResult{Outcome: o}) }

func TestWhatSourcesTell(t *testing.T) {
	t.Parallel()
	for _, p := range toldPrograms() {
		c := wholeCall{toldTexts(p.main), nil, p.input, impl.MaxSteps, impl.MaxHeap}
		o := c.check(t).Outcome
		isTold := o.End == p.want.End && o.Error == p.want.Error || hasNoRoom(p.want) && hasNoRoom(o)
		if !isTold || o.Out != p.want.Out {
			t.Errorf("%s\ntells %s, not %s", p.main, shortOutcome(o), shortOutcome(p.want))
		}
	}
}

// Whatever passes, a run may stand for what the core means.
func TestWhatSourcesTellBehindPasses(t *testing.T) {
	t.Parallel()
	changed := 0
	for i, p := range toldPrograms() {
		c := wholeCall{toldTexts(p.main), nil, p.input, 600000, impl.MaxHeap}
		checked := impl.Check(c.texts)
		want := impl.Meaning(checked.Core, checked.Code, p.input, 100000)
		plain := c.answer()
		for at, list := range passLists() {
			if c.passes = list; at < 6 || (i+at)%3 == 0 {
				got := c.check(t)
				if !impl.Stands(want, got.Outcome) {
					t.Errorf("%s\nbehind %v tells %s, not %s", p.main, list, shortRun(got), shortOutcome(want))
				}
				if got != plain {
					changed++
				}
			}
		}
	}
	if changed < 80 {
		t.Errorf("%d are other runs", changed)
	}
}

// Classes of one's own, their superclasses, and derived instances.
func TestWhatSourcesWithClassesTell(t *testing.T) {
	t.Parallel()
	const base = "class Eq a where\n  (==) :: a -> a -> Bool\nclass Eq a => Ord a where\n  (<=) :: a -> a -> Bool\nclass Show a where\n  show :: a -> [Char]\ninfix 4 ==\ninfix 4 <=\ninfixr 5 ++\n(++) = primAppend\ninstance Eq Int where\n  (==) = primEq\ninstance Ord Int where\n  x <= y = if primLess y x then False else True\ninstance Show Int where\n  show = primShow\nyes True = 'y'\nyes False = 'n'\n"
	for _, row := range [][2]string{
		{"data T = A | B Int T | C deriving (Eq, Ord, Show)\nmain = show (B 1 (B (-2) C)) ++ [yes (x == y) | x <- l, y <- l] ++ [yes (x <= y) | x <- l, y <- l]\nl = [A, B 1 A, B 1 C, B 2 A, C]", "(B 1 (B -2 C))ynnnnnynnnnnynnnnnynnnnnyyyyyynyyyynnyyynnnyynnnny"},
		{"data P a b = P a b deriving (Show, Eq)\ninstance Show a => Show [a] where\n  show [] = \".\"\n  show (x : xs) = show x ++ show xs\nmain = show (P [1, 2] (P 3 [4])) ++ [yes (P 1 2 == P 1 2), yes (P 1 2 == P 2 1)]", "(P 12. (P 3 4.))yn"},
		{"class (Ord a, Show a) => Num a where\n  zero :: a\n  plus :: a -> a -> a\ninstance Num Int where\n  plus = primAdd\n  zero = 0\ninstance (Num a, Num b) => Num (V a b) where\n  zero = V zero zero\n  plus (V a b) (V c d) = V (plus a c) (plus b d)\ndata V a b = V a b deriving (Eq, Ord, Show)\nsum [] = zero\nsum (x : xs) = plus x (sum xs)\nbest x y = if x <= y then y else x\ntold x = if x == zero then \"zero\" else show (best x (plus x x))\nmain = told (sum [V 1 2, V 3 4]) ++ told (sum [V 0 0]) ++ told (sum [1, 2, 3]) ++ told (V 1 (V (-1) 0))", "(V 8 12)zero12(V 2 (V -2 0))"},
		{"class Eq a => Box a where\n  box :: Show b => b -> a -> [Char]\ninstance Box Int where\n  box b a = show b ++ (if a == 1 then \"one\" else show a)\ninstance Box a => Box [a] where\n  box b xs = [c | x <- xs, c <- box b x]\ninstance Eq a => Eq [a] where\n  [] == [] = True\n  (x : xs) == (y : ys) = if x == y then xs == ys else False\n  _ == _ = False\nmain = box 7 [[1, 2], [], [3]] ++ [yes ([[1]] == [[1]]), yes ([[1]] == [[2]])]", "7one7273yn"},
		{"main = f 3 ++ f [1]\nclass F a where\n  f :: a -> [Char]\ninstance F Int where\n  f x = show x\ninstance F a => F [a] where\n  f = g where\n    g (x : xs) = '[' : f x ++ g xs\n    g [] = \"]\"", "3[1]"},
		{"main = go 0\ngo :: Int -> [Char]\ngo n | n == 5 = \"\" | even n = show n ++ go (primAdd n 1) | True = '-' : go (primAdd n 1)\neven n = primMod n 2 == 0", "0-2-4"},
	} {
		c := wholeCall{[]string{inMain(base + row[0])}, nil, "", 100000, 20000}
		for _, list := range append(passLists(), nil) {
			c.passes = list
			if o := c.check(t).Outcome; o.End != impl.EndDone || o.Out != row[1] {
				t.Errorf("%s\nbehind %v tells %s, not %q", row[0], list, shortOutcome(o), row[1])
			}
		}
		if told := checkWhole(t, c.texts...); strings.Contains(wholeText(told), "stage") {
			t.Errorf("%s\nis %s", row[0], stageText(told))
		}
	}
}

// sourceRow has a main module with the end of its run, what is told and the text of an error.
type sourceRow struct {
	main       string
	input      string
	end        int64
	out, error string
}

func checkSources(t *testing.T, rows []sourceRow) {
	t.Helper()
	for _, row := range rows {
		c := wholeCall{[]string{inMain(row.main)}, nil, row.input, impl.MaxSteps, impl.MaxHeap}
		if o := c.check(t).Outcome; o.End != row.end || o.Out != row.out || o.Error != row.error {
			t.Errorf("%s\ntells %s, not end %d, %.60q %q", row.main, shortOutcome(o), row.end, row.out, row.error)
		}
		meaning := impl.Meaning(impl.Check(c.texts).Core, impl.Check(c.texts).Code, row.input, impl.MaxSteps)
		for _, list := range passLists() {
			c.passes = list
			if o := c.answer().Outcome; !impl.Stands(meaning, o) {
				t.Errorf("%s\nbehind %v tells %s, not %s", row.main, list, shortOutcome(o), shortOutcome(meaning))
			}
		}
	}
}

func TestSourcesOfEachEnd(t *testing.T) {
	t.Parallel()
	checkSources(t, []sourceRow{
		{"main = \"\"", "", impl.EndDone, "", ""},
		{"main = \"a\\n\\\\\\\"'\"", "", impl.EndDone, "a\n\\\"'", ""},
		{"main = [primChr 0, primChr 255, primChr 127]", "", impl.EndDone, "\x00\xff\x7f", ""},
		{"main :: [Char] -> [Char]\nmain s = s ++ s\ninfixr 5 ++\n(++) = primAppend", "a\x00\xff\n", impl.EndDone, "a\x00\xff\na\x00\xff\n", ""},
		{"main s = case s of { \"\" -> \"none\" ; _ -> primAppend s \"\" }", "", impl.EndDone, "none", ""},
		{"main :: [Char] -> [Char]\nmain s = primShow (f 0 s)\nf n [] = n\nf n (_ : s) = let m = primAdd n 1 in primSeq m (f m s)", strings.Repeat("x", 1000), impl.EndDone, "1000", ""},
		// Errors tell ahead what was told ahead, and their text.
		{"main = 'a' : primError \"why\"", "", impl.EndError, "a", "why"},
		{"main :: [Char]\nmain = primError \"\"", "", impl.EndError, "", ""},
		{"main = 'a' : primError (primAppend \"b\" (primError \"c\"))", "", impl.EndError, "a", "c"},
		{"main = 'a' : f 3\nf 1 = \"\"", "", impl.EndError, "a", "no match in Main.f"},
		{"main = 'a' : case 1 of { 2 -> \"\" }", "", impl.EndError, "a", "no match in case"},
		{"main = 'a' : (\\ 2 -> \"\") 1", "", impl.EndError, "a", "no match in lambda"},
		{"main = 'a' : (\\ ~[x] -> [x]) \"\"", "", impl.EndError, "a", "no match in lazy"},
		{"main = 'a' : g 1 where { g 2 = \"\" }", "", impl.EndError, "a", "no match in g"},
		{"class K a where { k :: a -> [Char] }\ninstance K Int where { k 2 = \"\" }\nmain = 'a' : k 1", "", impl.EndError, "a", "no match in m:Main.k"},
		{"main = 'a' : primShow (primMod 1 0)", "", impl.EndError, "a", "division by zero"},
		{"main = ['a', primChr 256]", "", impl.EndError, "a", "no char"},
		{"main = ['a', primChr (negate 1)]", "", impl.EndError, "a", "no char"},
		// Great numbers.
		{"main = primShow (f 9 7)\nf 0 x = x\nf n x = primMul (f (primSub n 1) x) (f (primSub n 1) x)", "", impl.EndError, "", "too large"},
		{"main = primShow (primMul 100000000000000000000 (negate 100000000000000000000))", "", impl.EndDone, "-1" + strings.Repeat("0", 40), ""},
		{"main = primShow (primDiv (negate 100000000000000000001) 3)", "", impl.EndDone, "-33333333333333333334", ""},
		{"main = primShow " + strings.Repeat("9", 300), "", impl.EndDone, strings.Repeat("9", 300), ""},
		// What asks for itself, what has no end, what is too long.
		{"main = 'a' : x where { x = primAppend \"\" x }", "", impl.EndLoop, "a", ""},
		{"main = 'a' : primShow x\nx = primAdd x 1", "", impl.EndLoop, "a", ""},
		{"main = let { x = 'a' : x } in x", "", impl.EndOut, strings.Repeat("a", impl.MaxOut), ""},
		{"main = f 'a'\nf c = c : f c", "", impl.EndOut, strings.Repeat("a", impl.MaxOut), ""},
		{"main = 'a' : f 1\nf x = if primLess x 0 then \"\" else f x", "", impl.EndSteps, "a", ""},
		{"main = 'a' : primShow (f 1)\nf x = primAdd 1 (f x)", "", impl.EndDeep, "a", ""},
		{"main = 'a' : f [1 .. 100000]\nf l = primSeq (sum 0 l) (primShow (sum 0 l))\nsum n l = case l of { [] -> n ; x : xs -> primSeq n (sum (primAdd n x) xs) }", "", impl.EndDeep, "a", ""},
		// What is not asked for.
		{"main = take 3 l\nl = 'x' : 'y' : 'z' : primError \"behind\"\ntake n l = if primEq n 0 then \"\" else case l of { x : xs -> x : take (primSub n 1) xs }", "", impl.EndDone, "xyz", ""},
		{"main = take 3 (f 0)\nf n = primChr (primAdd n 97) : f (primAdd n 1)\ntake n l = if primEq n 0 then \"\" else case l of { x : xs -> x : take (primSub n 1) xs }", "", impl.EndDone, "abc", ""},
		{"main = let { x = primError \"x\" ; y = x } in fst (\"a\", y)\nfst (a, _) = a", "", impl.EndDone, "a", ""},
	})
}

// The heap is too small for what is held, and for nothing else.
func TestSourcesInSmallHeaps(t *testing.T) {
	t.Parallel()
	c := wholeCall{[]string{inMain("main :: [Char] -> [Char]\nmain s = primAppend (rev [] s) s\nrev a s = case s of { [] -> a ; x : xs -> rev (x : a) xs }")}, nil, strings.Repeat("word ", 50), 100000, 100}
	if r := c.check(t); r.Outcome.End != impl.EndHeap || r.Outcome.Out != "" {
		t.Errorf("tells %s", shortRun(r))
	}
	c.heap = 4000
	want := c.check(t)
	if want.Outcome.Out != strings.Repeat(" drow", 50)+c.input {
		t.Errorf("tells %s", shortRun(want))
	}
	c.passes = []int64{impl.PassInline, impl.PassStrict}
	if r := c.check(t); r.Outcome.Out != want.Outcome.Out || r.Made >= want.Made {
		t.Errorf("tells %s", shortRun(r))
	}
}

// With anything out of bounds a run is bad, and all else is zero; at the bounds it is not.
func TestRunsOfSourcesThatAreBad(t *testing.T) {
	t.Parallel()
	sound := wholeCall{[]string{inMain("main s = primAppend \"\" s")}, nil, "in", 1000, 1000}
	bad := impl.RunResult{Outcome: impl.Outcome{End: impl.EndBad}}
	with := func(change func(c *wholeCall)) wholeCall {
		c := sound
		change(&c)
		return c
	}
	many := slices.Repeat([]int64{impl.PassDead}, impl.MaxPasses+1)
	for what, c := range map[string]wholeCall{
		"no steps": with(func(c *wholeCall) { c.steps = 0 }), "less than no steps": with(func(c *wholeCall) { c.steps = -1 << 63 }),
		"too many steps": with(func(c *wholeCall) { c.steps = impl.MaxSteps + 1 }), "far too many steps": with(func(c *wholeCall) { c.steps = 1<<63 - 1 }),
		"too small a heap": with(func(c *wholeCall) { c.heap = 99 }), "no heap": with(func(c *wholeCall) { c.heap = 0 }), "less than no heap": with(func(c *wholeCall) { c.heap = -1 << 63 }),
		"too large a heap": with(func(c *wholeCall) { c.heap = impl.MaxHeap + 1 }), "far too large a heap": with(func(c *wholeCall) { c.heap = 1<<63 - 1 }),
		"too long an input": with(func(c *wholeCall) { c.input = strings.Repeat("x", impl.MaxSource+1) }),
		"too many passes":   with(func(c *wholeCall) { c.passes = many }),
		"pass 0":            with(func(c *wholeCall) { c.passes = []int64{0} }), "pass 7": with(func(c *wholeCall) { c.passes = []int64{1, 7} }), "pass -1": with(func(c *wholeCall) { c.passes = []int64{-1} }),
		"far from a pass": with(func(c *wholeCall) { c.passes = []int64{2, 1<<63 - 1, 3} }),
		"no texts":        with(func(c *wholeCall) { c.texts = nil }),
	} {
		if got := c.check(t); got != bad {
			t.Errorf("%s: tells %s", what, shortRun(got))
		}
	}
	for what, c := range map[string]wholeCall{
		"most steps": with(func(c *wholeCall) { c.steps = impl.MaxSteps }), "the least heap": with(func(c *wholeCall) { c.heap = 100 }), "the largest heap": with(func(c *wholeCall) { c.heap = impl.MaxHeap }),
		"most passes": with(func(c *wholeCall) { c.passes = many[1:] }), "no passes": with(func(c *wholeCall) { c.passes = []int64{} }),
	} {
		if got := c.check(t); got.Outcome.End != impl.EndDone || got.Outcome.Out != "in" {
			t.Errorf("%s: tells %s", what, shortRun(got))
		}
	}
	one := with(func(c *wholeCall) { c.steps = 1 })
	if got := one.check(t); got.Outcome.End != impl.EndSteps || got.Outcome.Steps != 1 {
		t.Errorf("one step tells %s", shortRun(got))
	}
	long := with(func(c *wholeCall) {
		c.input, c.steps, c.heap = strings.Repeat("x", impl.MaxSource), impl.MaxSteps, impl.MaxHeap
	})
	if got := long.check(t); got.Outcome.End != impl.EndOut || got.Outcome.Out != long.input[:impl.MaxOut] {
		t.Errorf("the longest input tells %s", shortRun(got))
	}
}

// Lists of passes are their passes one by one, and a pass done twice is done once.
func TestPassesOfSourcesOneByOne(t *testing.T) {
	t.Parallel()
	for i, p := range toldPrograms()[:12] {
		c := wholeCall{toldTexts(p.main), nil, p.input, 50000, 50000}
		checked := impl.Check(c.texts)
		for at, list := range passLists() {
			if (i+at)%3 > 0 && at > 5 {
				continue
			}
			core := checked.Core
			for _, pass := range list {
				core = impl.RunPass(core, pass).Core
			}
			want := impl.RunForms(impl.FormsOf(core), checked.Code, p.input, c.steps, c.heap)
			c.passes = list
			if got := c.answer(); got != want {
				t.Errorf("%s\nbehind %v tells %s, and one by one %s", p.main, list, shortRun(got), shortRun(want))
			}
			last := list[len(list)-1]
			c.passes = append(slices.Clip(list), last, last)
			if got := c.answer(); got != want {
				t.Errorf("%s\nbehind %v tells %s, and without the last ones %s", p.main, c.passes, shortRun(got), shortRun(want))
			}
		}
	}
}

// As many steps as a run takes, or more, tell the same; fewer tell a beginning. A heap that is large enough turns nothing.
func TestStepsAndHeapsOfSources(t *testing.T) {
	t.Parallel()
	count := 0
	for i, p := range toldPrograms() {
		c := wholeCall{toldTexts(p.main), passLists()[i%11], p.input, impl.MaxSteps, impl.MaxHeap}
		if i%3 == 0 {
			c.passes = nil
		}
		want := c.answer()
		took := want.Outcome.Steps
		if took > 100000 {
			continue
		}
		count++
		with := func(steps, heap int64) impl.RunResult {
			return wholeCall{c.texts, c.passes, c.input, steps, heap}.answer()
		}
		for _, steps := range []int64{took, took + 1, took + 1000} {
			if got := with(steps, c.heap); got != want {
				t.Errorf("%s\nwith %d steps tells %s, not %s", p.main, steps, shortRun(got), shortRun(want))
			}
		}
		for _, steps := range []int64{1, took / 3, took / 2, took - 1} {
			got := with(max(1, steps), c.heap)
			o := got.Outcome
			if o.End != impl.EndSteps || o.Steps != max(1, steps) || o.Error != "" || !isFurther(got, want) || !impl.Stands(o, want.Outcome) {
				t.Errorf("%s\nwith %d steps tells %s, not a beginning of %s", p.main, steps, shortRun(got), shortRun(want))
			}
		}
		for _, heap := range []int64{want.Peak/2 + 100, want.Peak - 1, want.Peak, want.Peak + 1, 2 * want.Peak} {
			heap = min(max(heap, 100), impl.MaxHeap)
			got := with(impl.MaxSteps, heap)
			isFull := got.Outcome.End == impl.EndHeap && isFurther(impl.RunResult{Outcome: impl.Outcome{Out: got.Outcome.Out}}, want)
			isSame := got.Outcome == want.Outcome && got.Made == want.Made && got.Updates == want.Updates
			if got.Peak > heap || !isSame && !isFull || heap >= want.Peak && got != want {
				t.Errorf("%s\nin a heap of %d tells %s, not %s", p.main, heap, shortRun(got), shortRun(want))
			}
		}
	}
	if count < 15 {
		t.Errorf("%d programs", count)
	}
}

// stepsOf has the steps and updates of a source that ends well.
func stepsOf(t *testing.T, main string) impl.RunResult {
	t.Helper()
	r := wholeCall{[]string{inMain(main)}, nil, "", impl.MaxSteps, impl.MaxHeap}.check(t)
	if r.Outcome.End != impl.EndDone {
		t.Errorf("%s\ntells %s", main, shortRun(r))
	}
	return r
}

// What is named is worked out once, wherever the name stands; what is not asked for is not worked out.
func TestWhatIsNamedInSourcesIsWorkedOutOnce(t *testing.T) {
	t.Parallel()
	const sum = "\nsum n = if primEq n 0 then 0 else primAdd n (sum (primSub n 1))\ntwice x = primAdd x x\nlist x = [x, x, x]\nadd l = case l of { [] -> 0 ; x : xs -> primAdd x (add xs) }\npair x = (x, x)\nboth p = case p of { (a, b) -> primAdd a b }"
	one := stepsOf(t, "main = primShow (sum 300)"+sum).Outcome.Steps
	for _, row := range []struct {
		body  string
		times int64
	}{
		{"let x = sum 300 in primAdd x x", 1},
		{"primAdd (sum 300) (sum 300)", 2},
		{"let { x = primAdd y (primAdd y y) ; y = sum 300 } in x", 1},
		{"twice (sum 300)", 1},
		{"add (list (sum 300))", 1},
		{"both (pair (sum 300))", 1},
		{"(\\ x y -> primAdd x (primAdd y x)) (sum 300) 1", 1},
		{"case sum 300 of { x -> primAdd x x }", 1},
		{"case (sum 300, 1) of { (x, y) -> primAdd x (primAdd x y) }", 1},
		{"add [x | x <- list (sum 300)]", 1},
		{"add [sum 300 | x <- [1, 2, 3]]", 3},
		{"let { f y = primAdd x y ; x = sum 300 } in primAdd (f 1) (f 2)", 1},
		{"let f y = primAdd (sum 300) y in primAdd (f 1) (f 2)", 2},
		{"(\\ ~(x, y) -> primAdd x (primAdd x y)) (let z = sum 300 in (z, z))", 1},
		{"primAdd all all", 1},
		{"let x = sum 300 in 1", 0},
		{"case pair (sum 300) of { (_, _) -> 1 }", 0},
		{"(\\ x -> 1) (sum 300)", 0},
		{"if True then 1 else sum 300", 0},
		{"primSeq (list (sum 300)) 1", 0},
		{"primSeq (\\ x -> sum 300) 1", 0},
		{"case list (sum 300) of { _ : l -> 1 }", 0},
		{"let { x = sum 300 ; y = (x, 1) } in case y of { ~(a, _) -> 1 }", 0},
	} {
		steps := stepsOf(t, "main = primShow ("+row.body+")\nall = sum 300"+sum).Outcome.Steps
		if steps < row.times*one-200 || steps > row.times*one+200 {
			t.Errorf("%s takes %d steps, and one sum %d", row.body, steps, one)
		}
	}
}

// Loops that carry along what they have worked out run in a heap of one size.
func TestLoopsOfSourcesInOneHeap(t *testing.T) {
	t.Parallel()
	for _, form := range []string{
		"main = primShow (loop # 0)\nloop n a = if primEq n 0 then a else primSeq a (loop (primSub n 1) (primAdd a n))",
		"main = primShow (loop # 0)\nloop n a | primEq n 0 = a\n         | True = let b = primAdd a n in primSeq b (loop (primSub n 1) b)",
		"main = primShow (loop # 0)\nloop n !a = if primEq n 0 then a else loop (primSub n 1) (primAdd a n)",
		"main = primShow (sum 0 [1 .. #])\nsum !n l = if empty l then n else sum (primAdd n (head l)) (tail l)\nempty l = case l of { [] -> True ; _ -> False }\nhead l = case l of { x : _ -> x }\ntail l = case l of { _ : l -> l }",
		"main = primShow (loop # (0, 1))\nloop n p = case p of { (a, b) -> primSeq a (primSeq b (if primEq n 0 then a else loop (primSub n 1) (b, primMod (primAdd a b) 1000))) }",
		"main = show (loop # \"\")\nshow s = case s of { [] -> \"\" ; c : s -> c : show s }\nloop n s = if primEq n 0 then s else primSeq (last s) (loop (primSub n 1) (turned s))\nlast s = case s of { [] -> 'x' ; c : s -> c }\nturned s = case s of { [] -> \"ab\" ; c : r -> case r of { [] -> [c] ; d : _ -> [d, c] } }",
	} {
		least := func(count string) int64 {
			c := wholeCall{[]string{inMain(strings.ReplaceAll(form, "#", count))}, nil, "", impl.MaxSteps, impl.MaxHeap}
			checked := impl.Check(c.texts)
			r := slowRun{impl.FormsOf(checked.Core), checked.Code, "", impl.MaxSteps, 3000}
			if got := r.answer(); got.Outcome.End != impl.EndDone || got.Outcome != c.answer().Outcome {
				t.Errorf("%s\ntells %s", c.texts[0], shortRun(got))
			}
			return r.checkHeaps(t)
		}
		few, many := least("200"), least("20000")
		if many > few+2 || many > 200 {
			t.Errorf("%s\nasks for %d cells, and with many rounds for %d", form, few, many)
		}
	}
}

// A program tells what its clauses say, as they are written, whatever stands beside it.
func TestModulesThatAreNotUsedTurnNothing(t *testing.T) {
	t.Parallel()
	for _, p := range toldPrograms()[:8] {
		c := wholeCall{toldTexts(p.main), nil, p.input, 100000, 50000}
		want := c.answer().Outcome
		c.texts = append(c.texts, "module Unused where\nimport Main\nx = main\ny = primError \"y\"\n", "module Aside where\ndata T = A T\nz = A z\n")
		if got := c.check(t).Outcome; got.Out != want.Out || got.End != want.End || got.Error != want.Error {
			t.Errorf("%s\ntells %s, not %s", p.main, shortOutcome(got), shortOutcome(want))
		}
		if checked := checkWhole(t, c.texts...); checked.Stage != 0 {
			t.Error(fmt.Sprint(checked.Stage))
		}
	}
}
