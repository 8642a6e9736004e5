package tests

import (
	"fmt"
	"slices"
	"strconv"
	"strings"
	"testing"

	"loop.example/g00017/impl"
)

// A stageRow has texts with the line of the stage that they have.
type stageRow struct {
	want  string
	texts []string
}

// checkStages asks that a stage is all that is told: of texts, by Check, RunSource and Serve, and by the second reading.
func checkStages(t *testing.T, rows []stageRow) {
	t.Helper()
	for _, row := range rows {
		got := checkWhole(t, row.texts...)
		if len(strings.Join(row.texts, "")) < 4000 {
			checkWholeBy(t, checkSlowly, row.texts)
		}
		if text := stageText(got); text != row.want {
			t.Errorf("%.2000s\nhas %q, not %q", strings.Join(row.texts, "\n"), text, row.want)
		}
		if len(got.Types) > 0 || !isZeroCore(got.Core) || len(got.Warnings) > 0 {
			t.Errorf("%.2000s\nhas more than a stage", strings.Join(row.texts, "\n"))
		}
		call := wholeCall{row.texts, nil, "", 1000, 1000}
		if r := call.answer(); r != (impl.RunResult{Outcome: impl.Outcome{End: impl.EndBad}}) {
			t.Errorf("%.2000s\nruns: %s", strings.Join(row.texts, "\n"), shortRun(r))
		}
		isWritten := func(text string) bool { return text == "" || strings.HasSuffix(text, "\n") }
		if answer := impl.Serve(call.request()); answer != row.want+"\n" && !slices.ContainsFunc(row.texts, func(text string) bool { return !isWritten(text) }) {
			t.Errorf("%.2000s\nis served with %q", strings.Join(row.texts, "\n"), answer)
		}
	}
}

// stages reads rows of a line and texts, each of which begins behind the sign %.
func stages(rows [][2]string) []stageRow {
	var list []stageRow
	for _, row := range rows {
		list = append(list, stageRow{row[0], strings.Split(row[1], "%")[1:]})
	}
	return list
}

const soundMain = "module Main where\nmain = \"\"\n"

func TestTextsThatAreNotRead(t *testing.T) {
	t.Parallel()
	spaces := strings.Repeat(" ", impl.MaxSource-len(soundMain))
	checkStages(t, []stageRow{
		// The codes of Lex.
		{"stage 1 11 - 0", []string{"module Main where\nmain = \t\"\"\n"}},
		{"stage 1 11 - 0", []string{"module Main where\nmain = \"\"\x00\n"}},
		{"stage 1 12 - 0", []string{soundMain + "{- {- -}\n"}},
		{"stage 1 13 - 0", []string{inMain("main = 007")}},
		{"stage 1 13 - 0", []string{inMain("main = " + strings.Repeat("1", impl.MaxDigits+1))}},
		{"stage 1 14 - 0", []string{inMain("main = \"")}},
		{"stage 1 14 - 0", []string{inMain("main = 'ab'")}},
		{"stage 1 15 - 0", []string{soundMain + spaces + "\n"}},
		{"stage 1 15 - 0", []string{strings.Repeat("\t", impl.MaxSource) + "\n"}},
		// Those of ParseTokens.
		{"stage 1 1 - 0", []string{""}},
		{"stage 1 1 - 0", []string{"\n"}},
		{"stage 1 1 - 0", []string{"-- nothing\n"}},
		{"stage 1 1 - 0", []string{"main = \"\"\n"}},
		{"stage 1 1 - 0", []string{inMain("main = (")}},
		{"stage 1 1 - 0", []string{inMain("main = if True then \"\"")}},
		{"stage 1 1 - 0", []string{soundMain + "module Other where\n"}},
		{"stage 1 2 - 0", []string{inMain("main = \"\"\nimport Other")}},
		{"stage 1 2 - 0", []string{inMain("main = " + strings.Repeat("[", 200) + strings.Repeat("]", 200))}},
		{"stage 1 2 - 0", []string{inMain("main = [" + strings.Repeat("1,", 19999) + "1]")}},
		// Of several the first one, whatever else is wrong.
		{"stage 1 1 - 1", []string{soundMain, "x", "\t"}},
		{"stage 1 11 - 1", []string{soundMain, "\t", "x"}},
		{"stage 1 13 - 2", []string{soundMain, soundMain, "007\n", "'\n", "x\n"}},
		{"stage 1 1 - 1", []string{"module Main where\nimport Nothing\nmain = x\n", "module\n"}},
		{"stage 1 1 - 1", []string{inMain("main = 1"), "x = 1\n"}},
		{"stage 1 1 - 0", []string{"", ""}},
	})
}

// The first text that is not read is told, wherever it stands among many.
func TestWhichTextIsNotRead(t *testing.T) {
	t.Parallel()
	var good []string
	for i := range 40 {
		good = append(good, fmt.Sprintf("module M%d where\nx = %d\n", i, i))
	}
	for first := range good {
		for _, second := range []int{first + 1, first + 2, first + 8, 39} {
			texts := slices.Clone(good)
			texts[min(second, 39)] = "\t\n"
			texts[first] = "x\n"
			checkStages(t, []stageRow{{"stage 1 1 - " + strconv.Itoa(first), texts}})
		}
	}
	checkStages(t, []stageRow{{"stage 4 0 - -", good}})
}

func TestNamesThatAreAtFault(t *testing.T) {
	t.Parallel()
	checkStages(t, stages([][2]string{
		{"stage 2 2 B -", "%module A where\n%module B where\n%module B where\n%module A where\n"},
		{"stage 2 2 Main -", "%" + soundMain + "%" + soundMain},
		{"stage 2 2 Main -", "%module Main where\nimport Nothing\n%module Main where\nmain = x\n"},
		{"stage 2 3 Main Nothing", "%module Main where\nimport Nothing\nmain = \"\"\n"},
		{"stage 2 3 B C", "%module A where\nimport B\n%module B where\nimport C\nimport A\n"},
		{"stage 2 4 - -", "%module A where\nimport B\n%module B where\nimport A\n%module C where\nx = y\n"},
		{"stage 2 4 - -", "%module Main where\nimport Main\nmain = \"\"\n"},
		{"stage 2 5 Main x", "%module Main where\nx = 1\ny = 2\nx = 3\nmain = z\n"},
		{"stage 2 5 Main T", "%module Main where\ndata T = A\nclass T a where\nmain = z\n"},
		{"stage 2 5 Main m", "%module Main where\nclass C a where { m :: a }\nm = 1\n"},
		{"stage 2 5 Main x", "%module Main where\nx, x :: Int\nx = 1\n"},
		{"stage 2 6 Main y", "%module Main (main, y) where\nmain = z\n"},
		{"stage 2 7 Main y", "%module Main where\nimport A (x, y)\nmain = z\n%module A (x) where\nx = 1\ny = 2\n"},
		{"stage 2 8 Main ==", "%module Main where\ninfix 4 ==\nx == y = x\nmain = 1 == 2 == z\n"},
		{"stage 2 8 Main +", "%module Main where\nimport A\nmain = 1 - 2 + 3\n%module A where\ninfixl 6 -\ninfixr 6 +\nx - y = x\nx + y = x\n"},
		{"stage 2 9 Main z", "%module Main where\nmain = z\n"},
		{"stage 2 9 Main T", "%module Main where\nmain :: T\nmain = z\n"},
		{"stage 2 9 Main y", "%module Main where\nimport A\nmain = y\n%module A (x) where\nx = 1\ny = 2\n"},
		{"stage 2 10 Main x", "%module Main where\nimport A\nimport B\nmain = x\n%module A where\nx = 1\n%module B where\nx = 1\n"},
		{"stage 2 10 Main negate", "%module Main where\nnegate = 1\nmain = negate\n"},
		{"stage 2 11 Main x", "%module Main where\nmain x x = z\n"},
		{"stage 2 11 Main y", "%module Main where\nmain = [1 | (y, y) <- z]\n"},
		{"stage 2 12 Main y", "%module Main where\ny :: Int\nmain = z\n"},
		{"stage 2 12 Main g", "%module Main where\nmain = let { g 1 = 1 ; g = 2 } in z\n"},
		{"stage 2 13 Main C", "%module Main where\ndata T = A deriving (C)\nclass C a where\n"},
		{"stage 2 13 Main Eq", "%module Main where\ndata T = A deriving (Eq)\nclass Eq a where\nmain = z\n"},
		// In the order of the modules; what is imported comes ahead.
		{"stage 2 9 A a", "%module Main where\nimport A\nmain = z\n%module A where\nx = a\n"},
		{"stage 2 5 B b", "%module Main where\nmain = 1\n%module B where\nb = 1\nc = 1\nb = 1\n%module A where\nx = a\n"},
		{"stage 2 9 A a", "%module Main where\nmain = 1\n%module A where\nx = a\n%module B where\nb = 1\nc = 1\nb = 1\n"},
		// Ahead of what does not type, and of a main that is none.
		{"stage 2 9 A a", "%module A where\nx = a\n%module Main where\nmain = 'a' 1\n"},
		{"stage 2 9 A a", "%module A where\ny = 'a' 1\nx = a\n"},
	}))
}

func TestWhatIsAtOddsWithTypes(t *testing.T) {
	t.Parallel()
	checkStages(t, stages([][2]string{
		// TableOf has a code.
		{"stage 3 1 - Main.T", "%module Main where\ndata T a a = A\nmain = \"\"\n"},
		{"stage 3 1 - x", "%module Main where\ndata T = A x\nmain = \"\"\n"},
		{"stage 3 1 - Main.T", "%module Main where\ndata T a = A T\nmain = \"\"\n"},
		{"stage 3 1 - Main.C", "%module Main where\ndata T = A\nclass T a => C a where\nmain = \"\"\n"},
		{"stage 3 1 - Main.C", "%module Main where\nclass D a => C a where\nclass C a => D a where\nmain = \"\"\n"},
		{"stage 3 1 - Main.m", "%module Main where\nclass C a where { m :: Int }\nmain = \"\"\n"},
		{"stage 3 1 - Main.T", "%module Main where\ndata T = A\ninstance T Int where\nmain = \"\"\n"},
		{"stage 3 1 - Int", "%module Main where\nclass C a where\ninstance C Int where\ninstance C Int where\nmain = \"\"\n"},
		{"stage 3 1 - Main.m", "%module Main where\nclass C a where { m :: a }\ninstance C Int where\nmain = \"\"\n"},
		{"stage 3 1 - Main.x", "%module Main where\nclass C a where\ninstance C Int where { x = 1 }\nx = 1\nmain = \"\"\n"},
		{"stage 3 1 - Main.D", "%module Main where\nclass D a where\nclass D a => C a where\ninstance C Int where\nmain = \"\"\n"},
		// Something does not type.
		{"stage 3 2 - Main.main", "%module Main where\nmain = 'a' 1\n"},
		{"stage 3 2 - Main.main", "%module Main where\nmain x = x x\n"},
		{"stage 3 2 - Main.f", "%module Main where\nmain = g\nf = g 'a'\ng = primSeq f 1\n"},
		{"stage 3 2 - Main.g", "%module Main where\nmain = f\nf = g\ng = 1 2\n"},
		{"stage 3 2 - Main.x", "%module Main where\ndata T a = A\nmain = 1 2\nx :: T\nx = A\n"},
		{"stage 3 2 - Main.x", "%module Main where\nmain = 1 2\nx = let { y :: [Int] Int ; y = y } in 1\n"},
		{"stage 3 2 - Main.x", "%module Main where\nmain = \"\"\nx :: a -> Int\nx y = y\n"},
		{"stage 3 2 - Main.C", "%module Main where\nclass C a where { m :: a }\ninstance C Int where { m = 'a' }\nmain = \"\"\n"},
		{"stage 3 2 - Main.main", "%module Main where\nclass C a where { m :: a -> [Char] }\nmain = m 1\n"},
		{"stage 3 2 - A.x", "%module Main where\nimport A\nmain = 1\n%module A where\nx = 1 2\n"},
		// Ahead of a main that is none.
		{"stage 3 2 - Main.x", "%module Main where\nmain = 1\nx = 1 2\n"},
		{"stage 3 2 - Other.x", "%module Other where\nx = 1 2\n"},
		{"stage 3 1 - Int", "%module Main where\nclass C a where\ninstance C Int where\ninstance C Int where\nmain = 1 2\n"},
	}))
}

func TestMainsThatAreNone(t *testing.T) {
	t.Parallel()
	checkStages(t, append(stages([][2]string{
		{"stage 4 0 - -", "%module Main where\nmain = 1\n"},
		{"stage 4 0 - -", "%module Main where\nmain = 'a'\n"},
		{"stage 4 0 - -", "%module Main where\nmain = []\n"},
		{"stage 4 0 - -", "%module Main where\nmain x = x\n"},
		{"stage 4 0 - -", "%module Main where\nmain x = \"\"\n"},
		{"stage 4 0 - -", "%module Main where\nmain x y = primAppend x (primAppend \"\" y)\n"},
		{"stage 4 0 - -", "%module Main where\nmain = primError \"\"\n"},
		{"stage 4 0 - -", "%module Main where\nmain = [\"\"]\n"},
		{"stage 4 0 - -", "%module Main where\nclass C a where { m :: a }\nmain x = m\n"},
		{"stage 4 0 - -", "%module Main where\nclass C a where { m :: a -> [Char] }\nmain x = m x\n"},
		{"stage 4 0 - -", "%module Main where\nclass C a where { main :: a }\ninstance C Int where { main = 1 }\n"},
		{"stage 4 0 - -", "%module Main where\n"},
		{"stage 4 0 - -", "%module Main where\nx = \"\"\n"},
		{"stage 4 0 - -", "%module Other where\nmain = \"\"\n"},
		{"stage 4 0 - -", "%module Other where\nmain = \"\"\n%module Main where\nimport Other\n"},
		{"stage 4 0 - -", "%module Main where\ndata T = A Char\nmain = [A 'a']\n"},
	}), stageRow{"stage 4 0 - -", nil}, stageRow{"stage 4 0 - -", []string{}}))
	// The zero value has no list, whatever there is none of.
	for _, texts := range [][]string{nil, {}, {"module Main where\n"}} {
		if c := impl.Check(texts); c.Types != nil || c.Warnings != nil || c.Core.Kids != nil || c.Module+c.Name != "" {
			t.Errorf("%q has %v", texts, c)
		}
	}
}

func TestCoresThatAreTooLarge(t *testing.T) {
	t.Parallel()
	checkStages(t, []stageRow{
		// A list is as deep as it is long.
		{"stage 5 0 - -", []string{inMain("main = [" + strings.Repeat("'a',", 1200) + "'a']")}},
		{"stage 5 0 - -", []string{inMain("main = \"\"\nx = [" + strings.Repeat("1,", 1200) + "1]")}},
		{"stage 5 0 - -", []string{inMain("main = \"\"\n" + countedUp(3400, "f#=1", "\n"))}},
		{"stage 5 0 - -", []string{soundMain, "module A where\n" + countedUp(1700, "f#=1", "\n") + "\n", "module B where\n" + countedUp(1700, "f#=1", "\n") + "\n"}},
		// Ahead of it stands all else.
		{"stage 4 0 - -", []string{inMain("main = [" + strings.Repeat("1,", 1200) + "1]")}},
		{"stage 3 2 - Main.x", []string{inMain("main = [" + strings.Repeat("'a',", 1200) + "'a']\nx = 1 2")}},
	})
	if c := checkWhole(t, inMain("main = ["+strings.Repeat("'a',", 900)+"'a']")); c.Stage != 0 || c.Code != 1 {
		t.Error("it is not too large")
	}
	if c := checkWhole(t, inMain("main = \"\"\n"+countedUp(3000, "f#=1", "\n"))); c.Stage != 0 || len(c.Types) != 3001 {
		t.Error("it is not too large")
	}
}

// What is told of programs that pass: the kind, types, core and warnings, and no name.
func TestProgramsThatPass(t *testing.T) {
	t.Parallel()
	for _, row := range []struct {
		texts string
		want  string
	}{
		{"%module Main where\nmain = \"\"\n", "1 main :: [Char]"},
		{"%module Main where\nmain = 'a' : []\n", "1 main :: [Char]"},
		{"%module Main where\nmain :: [Char]\nmain = primError \"\"\n", "1 main :: [Char]"},
		{"%module Main where\nmain :: [Char] -> [Char]\nmain x = x\n", "2 main :: [Char] -> [Char]"},
		{"%module Main where\nmain = primAppend \"a\"\n", "2 main :: [Char] -> [Char]"},
		{"%module Main where\nmain \"\" = \"\"\n", "2 main :: [Char] -> [Char]; missing Main.main 0"},
		{"%module Main (x) where\nx = 1\nmain = \"\"\n", "1 x :: Int; main :: [Char]"},
		{"%module Main () where\nmain = \"\"\n", "1 main :: [Char]"},
		{"%module Main where\nimport B\nmain = f\n%module B where\nf = \"\"\ng x = f\n", "1 f :: [Char]; g :: a -> [Char]; main :: [Char]"},
		{"%module Main where\nmain = case 1 of { _ -> \"\" ; 2 -> \"\" }\nf True = 1\nf True = 2\n", "1 main :: [Char]; f :: Bool -> Int; redundant Main.main 2; missing Main.f 0; redundant Main.f 2"},
		{"%module Main where\nclass K a where { m :: a }\ninstance K Int where { m = case 1 of { 1 -> 2 } }\nmain = primShow m\nf x | x = 1\n", "1 main :: [Char]; f :: Bool -> Int; missing Main.K 0; missing Main.f 0"},
	} {
		texts := strings.Split(row.texts, "%")[1:]
		c := checkWhole(t, texts...)
		checkWholeBy(t, checkSlowly, texts)
		got := strconv.FormatInt(c.Code, 10) + " " + strings.Join(textsOf(c.Types, func(x impl.Typed) string {
			_, own, _ := strings.Cut(x.Name, ".")
			return own + " :: " + impl.FormatScheme(x.Scheme)
		}), "; ")
		for _, w := range c.Warnings {
			got += fmt.Sprintf("; %s %s %d", []string{"", "missing", "redundant"}[w.Kind], w.Name, w.Row)
		}
		if got != row.want || c.Stage != 0 || c.Module+c.Name != "" {
			t.Errorf("%s\nis %s, not %s", row.texts, got, row.want)
		}
	}
}
