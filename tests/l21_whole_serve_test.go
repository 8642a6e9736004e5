package tests

import (
	"math/rand/v2"
	"slices"
	"strings"
	"testing"

	"loop.example/g00017/impl"
)

const serveHead = "passes beta inline\nsteps 5000\nheap 1000\ninput \"a\\n\"\n"

const serveModule = "module\nmodule Main where\nmain x = primAppend x \"out\"\n"

const servedWell = "Main.main :: [Char] -> [Char]\nout \"a\\nout\"\nend 0 \"\"\n"

func checkAnswer(t *testing.T, text, want string) {
	t.Helper()
	if got := checkServed(t, text); got != want {
		t.Errorf("%.1000q\nis answered with\n%s\nnot\n%s", text, got, want)
	}
}

// Each line may be left out, come twice, or in another place: that is bad.
func TestLinesOfRequests(t *testing.T) {
	t.Parallel()
	checkAnswer(t, serveHead+serveModule, servedWell)
	lines := slices.Collect(strings.Lines(serveHead + "module\n"))
	rest := strings.TrimPrefix(serveModule, "module\n")
	for i := range lines {
		without := slices.Delete(slices.Clone(lines), i, i+1)
		checkAnswer(t, strings.Join(without, "")+rest, "bad\n")
		for at := range len(without) + 1 {
			moved := slices.Insert(slices.Clone(without), at, lines[i])
			if at != i {
				checkAnswer(t, strings.Join(moved, "")+rest, "bad\n")
			}
		}
		for at := range lines[:4] {
			if twice := slices.Insert(slices.Clone(lines), at, lines[i]); i < 4 || at < 4 {
				checkAnswer(t, strings.Join(twice, "")+rest, "bad\n")
			}
		}
		if i < 4 {
			// Behind the modules' lines it is one of a text.
			checkAnswer(t, strings.Join(lines, "")+lines[i]+rest, "stage 1 1 - 0\n")
			checkAnswer(t, strings.Join(lines, "")+rest+"-- "+lines[i], servedWell)
		}
		for _, change := range [][2]string{{"\n", " \n"}, {"\n", "\r\n"}, {"\n", "\t\n"}, {"\n", "\n\n"}, {"\n", ""}, {" ", "  "}, {" ", "\t"}, {" ", ""}, {" ", " \n"}} {
			other := slices.Clone(lines)
			other[i] = strings.Replace(other[i], change[0], change[1], 1)
			if other[i] != lines[i] && (i < 4 || change[1] != "\n\n") {
				checkAnswer(t, strings.Join(other, "")+rest, "bad\n")
			}
		}
		for _, ahead := range []string{" ", "\n", "x", "\t", "-- \n"} {
			other := slices.Clone(lines)
			other[i] = ahead + other[i]
			checkAnswer(t, strings.Join(other, "")+rest, "bad\n")
		}
		other := slices.Clone(lines)
		other[i] = strings.ToUpper(other[i][:1]) + other[i][1:]
		checkAnswer(t, strings.Join(other, "")+rest, "bad\n")
		// Without its word; of the passes the word alone is a line, too.
		other[i] = strings.TrimLeft(lines[i], "abcdefghijklmnopqrstuvwxyz")
		checkAnswer(t, strings.Join(other, "")+rest, "bad\n")
		other[0] = "\n"
		checkAnswer(t, strings.Join(other, "")+rest, "bad\n")
	}
	// The last line without its line feed, wherever it ends.
	whole := serveHead + serveModule
	for end := range whole {
		if whole[max(end-1, 0)] != '\n' {
			checkAnswer(t, whole[:end], "bad\n")
		}
	}
	checkAnswer(t, "", "bad\n")
	checkAnswer(t, "\n", "bad\n")
}

func TestPassesOfRequests(t *testing.T) {
	t.Parallel()
	with := func(line string) string {
		return strings.Replace(serveHead, "passes beta inline", line, 1) + serveModule
	}
	for _, line := range []string{"passes", "passes beta", "passes known", "passes dead", "passes inline", "passes float", "passes strict", "passes beta known dead inline float strict", "passes beta beta beta", "passes" + strings.Repeat(" known", impl.MaxPasses)} {
		checkAnswer(t, with(line), servedWell)
	}
	// More than may be are still of the form.
	checkAnswer(t, with("passes"+strings.Repeat(" known", impl.MaxPasses+1)), "Main.main :: [Char] -> [Char]\nout \"\"\nend 7 \"\"\n")
	checkAnswer(t, with("passes"+strings.Repeat(" known", 20000)), "Main.main :: [Char] -> [Char]\nout \"\"\nend 7 \"\"\n")
	for _, line := range []string{"passes ", "passes  beta", "passes beta ", "passes beta  inline", "passes beto", "passes Beta", "passes bet", "passes betas", "passes beta,inline", "passes 1", "passes -", "passesbeta", "passe", "passes\tbeta", "passes beta\tinline", "passes \"beta\"", "passes beta nothing", "passes" + strings.Repeat(" known", impl.MaxPasses+1) + " x", "passes\x00"} {
		checkAnswer(t, with(line), "bad\n")
	}
}

func TestNumbersOfRequests(t *testing.T) {
	t.Parallel()
	with := func(steps, heap string) string {
		return "passes\nsteps " + steps + "\nheap " + heap + "\ninput \"a\\n\"\n" + serveModule
	}
	const bad = "Main.main :: [Char] -> [Char]\nout \"\"\nend 7 \"\"\n"
	for _, row := range [][3]string{
		{"5000", "1000", servedWell}, {"2000000", "200000", servedWell}, {"5000", "100", servedWell},
		{"1", "1000", "Main.main :: [Char] -> [Char]\nout \"\"\nend 3 \"\"\n"},
		{"0", "1000", bad}, {"2000001", "1000", bad}, {"-1", "1000", bad}, {"9223372036854775807", "1000", bad}, {"-9223372036854775808", "1000", bad},
		{"5000", "99", bad}, {"5000", "0", bad}, {"5000", "200001", bad}, {"5000", "-100", bad}, {"5000", "9223372036854775807", bad}, {"5000", "-9223372036854775808", bad},
	} {
		checkAnswer(t, with(row[0], row[1]), row[2])
	}
	for _, number := range []string{"", "05", "00", "-0", "-05", "+5", "5.", "5 0", "5,000", "5e3", "0x5", "five", "\"5\"", " 5", "5 ", "--5", "-", "5-", "5\x00", "9223372036854775808", "-9223372036854775809", "18446744073709556616", strings.Repeat("9", 385), strings.Repeat("9", 400), strings.Repeat("1", 100000)} {
		checkAnswer(t, with(number, "1000"), "bad\n")
		checkAnswer(t, with("5000", number), "bad\n")
	}
}

func TestInputsOfRequests(t *testing.T) {
	t.Parallel()
	with := func(input string) string {
		return "passes\nsteps 2000000\nheap 200000\ninput " + input + "\n" + "module\nmodule Main where\nmain :: [Char] -> [Char]\nmain x = x\n"
	}
	told := func(out string) string { return "Main.main :: [Char] -> [Char]\nout " + out + "\nend 0 \"\"\n" }
	for _, row := range [][2]string{
		{`""`, `""`}, {`"a"`, `"a"`}, {`" a  b "`, `" a  b "`}, {`"\n\\\"'"`, `"\n\\\"'"`}, {`"\'"`, `"'"`}, {`"-- {- module"`, `"-- {- module"`}, {`"~!@#$%^&*()_+{}|:<>?[];,./"`, `"~!@#$%^&*()_+{}|:<>?[];,./"`}, {`"\\n"`, `"\\n"`}, {`"\"\""`, `"\"\""`},
	} {
		checkAnswer(t, with(row[0]), told(row[1]))
	}
	for _, input := range []string{"", "a", `"`, `"a`, `a"`, `'a'`, `"a" "b"`, `"a"b`, `"a"""`, `"a" `, ` "a"`, `"a" -- b`, `"a"-- b`, `"a"{- b -}`, `{- b -}"a"`, `"\t"`, "\"\t\"", "\"\x7f\"", "\"\x80\"", "\"é\"", "\"\x00\"", `"\"`, `"\`, `"\x"`, `"\a"`, `1`, `[]`, `"a\"`} {
		checkAnswer(t, with(input), "bad\n")
	}
	// A token has no more than MaxSource bytes.
	longest := strings.Repeat("x", impl.MaxSource-2)
	out := "Main.main :: [Char] -> [Char]\nout \"" + strings.Repeat("x", impl.MaxOut) + "\"\nend 4 \"\"\n"
	checkAnswer(t, with(`"`+longest+`"`), out)
	checkAnswer(t, with(`"`+longest[2:]+`\'"`), out)
	checkAnswer(t, with(`"`+longest+`x"`), "bad\n")
	checkAnswer(t, with(`"`+longest[1:]+`\'"`), "bad\n")
}

func TestModulesOfRequests(t *testing.T) {
	t.Parallel()
	for _, row := range [][2]string{
		{"", "stage 4 0 - -\n"},
		{"module\n", "stage 1 1 - 0\n"},
		{"module\nmodule\n", "stage 1 1 - 0\n"},
		{"module\nmodule A where\nmodule\n", "stage 1 1 - 1\n"},
		{"module\n\n\nmodule Main where\n\nmain = \"\"\n\n", "Main.main :: [Char]\nout \"\"\nend 0 \"\"\n"},
		{"module\nmodule Main where\nimport A\nmain = a\nmodule\nmodule A where\na = \"a\"\n", "A.a :: [Char]\nMain.main :: [Char]\nout \"a\"\nend 0 \"\"\n"},
		{"module\nmodule A where\na = \"a\"\nmodule\nmodule Main where\nimport A\nmain = a\nmodule\nmodule B where\n", "A.a :: [Char]\nMain.main :: [Char]\nout \"a\"\nend 0 \"\"\n"},
		{"module\nmodule Main where\nmain = \"\"\nmodule\nmodule Main where\nmain = \"\"\n", "stage 2 2 Main -\n"},
		{"module\nmodule Main where\nmain = \"\"\nmodule\nmodule A where\nx = \"\n", "stage 1 14 - 1\n"},
		// The line is a line of its own, wherever it stands.
		{"module\nmodule Main where\n{-\nmodule\n-}\nmain = \"\"\n", "stage 1 12 - 0\n"},
		{"module\nmodule Main where\n{- module\n module\nmodule \nmodules\n-}\nmain = \"\"\n", "Main.main :: [Char]\nout \"\"\nend 0 \"\"\n"},
		{"module\nmodule Main where\nmain = \"\"\r\n", "stage 1 11 - 0\n"},
		{"module\nmodule Main where\nmain = \"\"\n\x00\n", "stage 1 11 - 0\n"},
		{"x\n", "bad\n"},
		{"\n", "bad\n"},
		{"\nmodule\nmodule Main where\nmain = \"\"\n", "bad\n"},
		{"module \nmodule Main where\nmain = \"\"\n", "bad\n"},
		{"module Main where\nmain = \"\"\n", "bad\n"},
		{"modules\nmodule\nmodule Main where\nmain = \"\"\n", "bad\n"},
		{"module\nmodule Main where\nmain = \"\"", "bad\n"},
		{"module\nmodule", "bad\n"},
		{"module", "bad\n"},
	} {
		checkAnswer(t, serveHead+row[0], row[1])
	}
	many := serveHead + "module\nmodule Main where\nmain = \"\"\n"
	for i := range 200 {
		many += "module\nmodule " + numbered("M", i) + " where\n"
	}
	checkAnswer(t, many, "Main.main :: [Char]\nout \"\"\nend 0 \"\"\n")
	checkAnswer(t, many+"module\nmodule M7 where\n", "stage 2 2 M7 -\n")
	checkAnswer(t, many+"module\nmodule\n", "stage 1 1 - 201\n")
}

// The lines of answers, of programs of each stage.
func TestAnswersOfServe(t *testing.T) {
	t.Parallel()
	for _, row := range [][2]string{
		{"main = (", "stage 1 1 - 0\n"},
		{"main = 'ab'", "stage 1 14 - 0\n"},
		{"main = x", "stage 2 9 Main x\n"},
		{"import A\nmain = x", "stage 2 3 Main A\n"},
		{"import Main\nmain = x", "stage 2 4 - -\n"},
		{"x + y = x\ninfix 4 +\nmain = 1 + 2 + 3", "stage 2 8 Main +\n"},
		{"main = 'a' 1", "stage 3 2 - Main.main\n"},
		{"data T = A x\nmain = 1", "stage 3 1 - x\n"},
		{"main = 1", "stage 4 0 - -\n"},
		{"main = [" + strings.Repeat("'a',", 1200) + "'a']", "stage 5 0 - -\n"},
		// Types by their full names; classes and datas by their own.
		{"main = \"\"\nx + y = x\nclass K a where { k :: a }\ndata T a = A a\nf x = A (primSeq k x)\ng = A", ""},
		{"main = \"\"\nx + y = x\nclass K a where { k :: a -> a }\ndata T a = A a\nf x = A (k x)\ng = A\n(!) = (+)\nh x y = (x, k y, [()])", "Main.main :: [Char]\nMain.+ :: a -> b -> a\nMain.f :: (K a) => a -> T a\nMain.g :: a -> T a\nMain.! :: a -> b -> a\nMain.h :: (K b) => a -> b -> (a, b, [()])\nout \"\"\nend 0 \"\"\n"},
		// Warnings, each with the name of the outermost declaration.
		{"main = \"x\"\nf 1 = 2\nf 2 = 3\nf 1 = 4\ng x = case x of { _ -> h } where { h = case x of { True -> 1 } }\nclass K a where { k :: a -> Int }\ninstance K Int where { k x = 1 ; k 1 = 2 }", "Main.main :: [Char]\nMain.f :: Int -> Int\nMain.g :: Bool -> Int\nmissing Main.f 0\nredundant Main.f 3\nmissing Main.g 0\nredundant Main.K 2\nout \"x\"\nend 0 \"\"\n"},
		// Each end.
		{"main = \"a\\n\\\"\\\\'b\"", "Main.main :: [Char]\nout \"a\\n\\\"\\\\'b\"\nend 0 \"\"\n"},
		{"main = 'a' : primError \"\\n\\\"\\\\'b\"", "Main.main :: [Char]\nout \"a\"\nend 1 \"\\n\\\"\\\\'b\"\n"},
		{"main = 'a' : x where { x = primAppend \"\" x }", "Main.main :: [Char]\nout \"a\"\nend 2 \"\"\n"},
		{"main = 'a' : f 1\nf x = if primLess x 0 then \"\" else f (primAdd x 1)", "Main.main :: [Char]\nMain.f :: Int -> [Char]\nout \"a\"\nend 3 \"\"\n"},
		{"main = 'a' : rest (f [1 .. 1000])\nf l = primSeq (last l) l\nlast l = case l of { [x] -> x ; _ : l -> last l ; _ -> 0 }\nrest l = case l of { [] -> \"\" ; x : l -> rest l }", "Main.main :: [Char]\nMain.f :: [Int] -> [Int]\nMain.last :: [Int] -> Int\nMain.rest :: [a] -> [Char]\nout \"a\"\nend 8 \"\"\n"},
		// Bytes that no string may have stand as they are.
		{"main = [primChr 0, primChr 9, primChr 13, primChr 127, primChr 128, primChr 255, primChr 195, primChr 169, primChr 10, primChr 34, primChr 92, primChr 39]", "Main.main :: [Char]\nout \"\x00\t\r\x7f\x80\xff\xc3\xa9\\n\\\"\\\\'\"\nend 0 \"\"\n"},
		{"main = primAppend \"a\" (primError [primChr 0, primChr 10, primChr 255, primChr 34])", "Main.main :: [Char]\nout \"a\"\nend 1 \"\x00\\n\xff\\\"\"\n"},
	} {
		if row[1] != "" {
			checkAnswer(t, "passes\nsteps 60000\nheap 3000\ninput \"\"\nmodule\nmodule Main where\n"+row[0]+"\n", row[1])
		}
	}
	loop := "module\nmodule Main where\nmain = let { x = 'a' : x } in x\n"
	checkAnswer(t, "passes\nsteps 2000000\nheap 1000\ninput \"\"\n"+loop, "Main.main :: [Char]\nout \""+strings.Repeat("a", impl.MaxOut)+"\"\nend 4 \"\"\n")
	deep := "module\nmodule Main where\nmain = primShow (f 1)\nf x = primAdd 1 (f x)\n"
	checkAnswer(t, "passes\nsteps 2000000\nheap 200000\ninput \"\"\n"+deep, "Main.main :: [Char]\nMain.f :: a -> Int\nout \"\"\nend 6 \"\"\n")
}

// Requests of drawn programs, of all stages, as they are and with a byte that is another one, or gone.
func TestDrawnRequests(t *testing.T) {
	t.Parallel()
	r := rand.New(rand.NewPCG(21, 30))
	bad, good := 0, 0
	look := func(text string) {
		if checkServed(t, text) == "bad\n" {
			bad++
		} else {
			good++
		}
	}
	for _, p := range toldPrograms() {
		if strings.Contains(p.main, "fib 40") || strings.Contains(p.main, "30000") {
			continue
		}
		c := wholeCall{toldTexts(p.main), passLists()[r.IntN(11)], p.input, 20000, 5000}
		look(c.request())
		small := wholeCall{[]string{inMain("main = f 3 4\nf 3 x = primShow x")}, []int64{1, 2}, "some\n\"input\"", 1000, 500}.request()
		for range 40 {
			at := r.IntN(len(small))
			other := small[r.IntN(len(small))]
			if r.IntN(5) == 0 {
				other = byte(r.IntN(256))
			}
			look(small[:at] + string([]byte{other}) + small[at+1:])
			look(small[:at] + small[at+1:])
			look(small[:at] + string([]byte{other}) + small[at:])
		}
	}
	if bad < 500 || good < 500 {
		t.Errorf("%d are bad, %d good", bad, good)
	}
}
