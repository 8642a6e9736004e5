package tests

import (
	"slices"
	"strconv"
	"testing"

	"loop.example/g00017/impl"
)

func TestVariablesMean(t *testing.T) {
	t.Parallel()
	checkMeant(t, []meant{
		// What stands for a value takes the variable's step alone.
		{`(let x = (: 'a' []) in x)`, impl.EndDone, "a", "", 2},
		{`((\x -> x) (: 'a' []))`, impl.EndDone, "a", "", 3},
		{`(case (C (: 'a' [])) of { C x -> x })`, impl.EndDone, "a", "", 3},
		{`(case (: 'a' []) of x { _ -> x })`, impl.EndDone, "a", "", 3},
		// What is suspended takes its own steps too, once.
		{`(let x = "a" in x)`, impl.EndDone, "a", "", 3},
		{`(let x = "a" in (primSeq x (primSeq x x)))`, impl.EndDone, "a", "", 7},
		{`((\x -> (primSeq x x)) "a")`, impl.EndDone, "a", "", 6},
		{`(case (C "a") of { C x -> (primSeq x x) })`, impl.EndDone, "a", "", 6},
		{`(case "a" of x { _ -> (primSeq x x) })`, impl.EndDone, "a", "", 5},
		// The name that is bound nearest around.
		{`(let x = "a" in (let x = "b" in x))`, impl.EndDone, "b", "", 4},
		{`(let x = "a" in ((\x -> x) "b"))`, impl.EndDone, "b", "", 5},
		{`((\x -> (let y = x in ((\x -> (: x y)) 'c'))) "a")`, impl.EndDone, "ca", "", 8},
		{`(case (C "a" "b") of x { C y x -> x })`, impl.EndDone, "b", "", 4},
		{`(case (: 'c' []) of x { C x -> "no"; _ -> x })`, impl.EndDone, "c", "", 3},
		{`(let x = "a" in (case (C "b") of x { C y -> (case x of { C x -> x }) }))`, impl.EndDone, "b", "", 7},
		{`(let x = "a"; y = (let x = "b" in x) in (case y of { : h r -> (: h x) }))`, impl.EndDone, "ba", "", 8},
		{`(let f = (\x -> (let f = x in f)) in (f "a"))`, impl.EndDone, "a", "", 7},
	})
}

func TestTextsMean(t *testing.T) {
	t.Parallel()
	checkMeant(t, []meant{
		{`"a"`, impl.EndDone, "a", "", 1},
		{`"many chars of one text"`, impl.EndDone, "many chars of one text", "", 1},
		{`[]`, impl.EndDone, "", "", 1},
		{`(: 'a' (: 'b' []))`, impl.EndDone, "ab", "", 1},
		{`(: 'a' "b")`, impl.EndDone, "ab", "", 2},
		{`(: (primChr 97) (: 'b' (let x = [] in x)))`, impl.EndDone, "ab", "", 5},
		// The list of a text is what it is at once, all of it.
		{`(case "abc" of { : a r -> (case r of { : b s -> (: b (: a s)) }) })`, impl.EndDone, "bac", "", 5},
		{`(case "a" of { : a r -> r })`, impl.EndDone, "", "", 3},
		{`(case (case "a" of { : a r -> r }) of { [] -> "end" })`, impl.EndDone, "end", "", 5},
		{`(let x = "ab" in (case x of { : a r -> (case x of { : b s -> (: a (: b r)) }) }))`, impl.EndDone, "aab", "", 7},
	})
	all := ""
	for b := range 256 {
		all += string([]byte{byte(b)})
	}
	if got, want := impl.Meaning(coreString(all), 1, "", 9), (impl.Outcome{Out: all, Steps: 1}); got != want {
		t.Errorf("the text of all chars tells %v", got)
	}
}

func TestCasesMean(t *testing.T) {
	t.Parallel()
	checkMeant(t, []meant{
		// The alternative of the constructor, without a name and with one.
		{`(case A of { A -> "a"; B -> "b" })`, impl.EndDone, "a", "", 3},
		{`(case B of { A -> "a"; B -> "b" })`, impl.EndDone, "b", "", 3},
		{`(case B of { A -> "a"; B -> "b"; _ -> "c" })`, impl.EndDone, "b", "", 3},
		{`(case (: 'a' []) of x { [] -> "b"; : h r -> (: h x) })`, impl.EndDone, "aa", "", 3},
		{`(case (C 'a' 'b' 'c') of { C x y z -> (: z (: y (: x []))) })`, impl.EndDone, "cba", "", 3},
		{`(case (let x = "ab" in x) of { : h r -> r })`, impl.EndDone, "b", "", 5},
		// The default.
		{`(case C of { A -> "a"; _ -> "c" })`, impl.EndDone, "c", "", 3},
		{`(case (: 'a' []) of { _ -> "c" })`, impl.EndDone, "c", "", 3},
		{`(case (: 'a' []) of x { _ -> x })`, impl.EndDone, "a", "", 3},
		{`(case (: 'a' []) of x { A -> "a"; _ -> x })`, impl.EndDone, "a", "", 3},
		{`(case 7 of { A -> "a"; _ -> "c" })`, impl.EndDone, "c", "", 3},
		{`(case 7 of x { _ -> (primShow x) })`, impl.EndDone, "7", "", 4},
		{`(case 'A' of { A -> "a"; _ -> "c" })`, impl.EndDone, "c", "", 3},
		{`(case (\x -> x) of f { A -> "a"; _ -> (f "c") })`, impl.EndDone, "c", "", 6},
		// Another number of names than fields is no alternative of it.
		{`(case (A 1) of { A -> "a"; _ -> "c" })`, impl.EndDone, "c", "", 3},
		{`(case A of { A x -> "a"; _ -> "c" })`, impl.EndDone, "c", "", 3},
		{`(case (A 1 2) of { A x -> "a"; B -> "b"; _ -> "c" })`, impl.EndDone, "c", "", 3},
		{`(case (A 1) of { A x y -> "a"; _ -> "c" })`, impl.EndDone, "c", "", 3},
		{`(case (A 1) of x { A -> "a"; _ -> (case x of { A y -> (primShow y) }) })`, impl.EndDone, "1", "", 6},
		{`(case "ab" of { : h -> "a"; _ -> "c" })`, impl.EndDone, "c", "", 3},
		{`(case "ab" of { [] x y -> "a"; _ -> "c" })`, impl.EndDone, "c", "", 3},
		// Neither.
		{`(case C of { A -> "a"; B -> "b" })`, impl.EndStuck, "", "", 2},
		{`(case (A 1) of { A -> "a" })`, impl.EndStuck, "", "", 2},
		{`(case A of { A x -> "a" })`, impl.EndStuck, "", "", 2},
		{`(case (A 1) of x { A y z -> "a" })`, impl.EndStuck, "", "", 2},
		{`(case 7 of { A -> "a" })`, impl.EndStuck, "", "", 2},
		{`(case 'A' of { A -> "a" })`, impl.EndStuck, "", "", 2},
		{`(case (\x -> x) of { A -> "a" })`, impl.EndStuck, "", "", 2},
		{`(case "a" of { [] -> "a" })`, impl.EndStuck, "", "", 2},
		{`(: 'x' (case [] of { : h r -> "a" }))`, impl.EndStuck, "x", "", 3},
		// What is looked at is worked out first, whatever is behind.
		{`(case (primError "e") of { _ -> "a" })`, impl.EndError, "", "e", 3},
		{`(let x = x in (case x of { _ -> "a" }))`, impl.EndLoop, "", "", 4},
		{`(case (1 2) of { _ -> "a" })`, impl.EndStuck, "", "", 3},
	})
}

func TestApplicationsMean(t *testing.T) {
	t.Parallel()
	checkMeant(t, []meant{
		// As many arguments as names.
		{`((\x -> x) "a")`, impl.EndDone, "a", "", 4},
		{`((\x y z -> (: z (: y x))) "a" 'b' 'c')`, impl.EndDone, "cba", "", 4},
		{`(let f = (\x y -> y) in (f 1 "a"))`, impl.EndDone, "a", "", 5},
		// Fewer: a function with arguments so far, however many times.
		{`((\x y -> x) "a")`, impl.EndStuck, "", "", 2},
		{`(primSeq ((\x y -> (primError "e")) 1) "a")`, impl.EndDone, "a", "", 4},
		{`(((\x y -> (: x y)) 'a') "b")`, impl.EndDone, "ab", "", 5},
		{`((((\x y z -> (: x (: y z))) 'a') 'b') "c")`, impl.EndDone, "abc", "", 6},
		{`(((\x y z -> (: x (: y z))) 'a' 'b') "c")`, impl.EndDone, "abc", "", 5},
		{`(let f = (\x y z -> (: x (: y (: z []))))  in (let g = (f 'a') in (let h = (g 'b') in (case (h 'c') of { : p q -> (case (h 'd') of { : r s -> (case (g 'e' 'f') of { : u v -> v }) }) }))))`, impl.EndDone, "ef", "", 20},
		// More: what comes out takes them.
		{`((\x -> (\y -> y)) 1 "a")`, impl.EndDone, "a", "", 5},
		{`((\x -> (\y z -> z)) 1 2 "a")`, impl.EndDone, "a", "", 5},
		{`((\x -> (\y -> (\z -> (: x (: y z))))) 'a' 'b' "c")`, impl.EndDone, "abc", "", 6},
		{`((\x -> (\y z -> (: y z))) 1 'a')`, impl.EndStuck, "", "", 3},
		{`(((\x -> (\y z -> (: y z))) 1 'a') "b")`, impl.EndDone, "ab", "", 6},
		{`((\x -> x) (\y -> y) (\z -> z) "a")`, impl.EndDone, "a", "", 6},
		{`(let k = (\x y -> x) in (k k 1 "a" 2))`, impl.EndDone, "a", "", 6},
		// No function.
		{`(1 2)`, impl.EndStuck, "", "", 2},
		{`('c' 2)`, impl.EndStuck, "", "", 2},
		{`("ab" 2)`, impl.EndStuck, "", "", 2},
		{`(A 2)`, impl.EndStuck, "", "", 1},
		{`((A 1) 2)`, impl.EndStuck, "", "", 2},
		{`((\x -> 1) 2 3)`, impl.EndStuck, "", "", 3},
		{`((\x -> "a") 2 3 4)`, impl.EndStuck, "", "", 3},
		{`((\x -> (\y -> A)) 1 2 3)`, impl.EndStuck, "", "", 4},
		{`(: 'x' ((\x -> 1) 2 3))`, impl.EndStuck, "x", "", 4},
		// The function is worked out ahead of all arguments.
		{`((primError "f") (primError "x"))`, impl.EndError, "", "f", 3},
		{`(let f = f in (f (primError "x")))`, impl.EndLoop, "", "", 4},
		{`(1 (primError "x"))`, impl.EndStuck, "", "", 2},
		// A function keeps what its names stood for where it was made.
		{`(let x = "a" in (let f = (\y -> x) in (let x = "b" in (f x))))`, impl.EndDone, "a", "", 7},
		{`(let f = (\x -> (\x -> x)) in (f "a" "b"))`, impl.EndDone, "b", "", 6},
	})
}

func TestLetsMean(t *testing.T) {
	t.Parallel()
	checkMeant(t, []meant{
		{`(let x = "a" in "b")`, impl.EndDone, "b", "", 2},
		{`(let x = 'a'; y = (: x z); z = "b" in y)`, impl.EndDone, "ab", "", 3},
		{`(let z = "b"; y = (: x z); x = 'a' in y)`, impl.EndDone, "ab", "", 3},
		{`(let x = (primAdd y 1); y = (primAdd z 1); z = 1 in (primShow x))`, impl.EndDone, "3", "", 9},
		// Names that name themselves and one another, in constructors and functions.
		{`(let x = (: 'a' x) in (case x of { : h r -> (case r of { : i s -> (: h (: i [])) }) }))`, impl.EndDone, "aa", "", 6},
		{`(let x = (: 'a' y); y = (: 'b' x) in (case x of { : h r -> (case r of { : i s -> (case s of { : j u -> (: h (: i (: j []))) }) }) }))`, impl.EndDone, "aba", "", 8},
		{`(let f = (\l -> (case l of { [] -> "e"; : h r -> (g r) })); g = (\l -> (case l of { [] -> "o"; : h r -> (f r) })) in (f "abc"))`, impl.EndDone, "o", "", 19},
		{`(let x = (: 'a' (f x)); f = (\l -> (case l of { : h r -> (: h []) })) in x)`, impl.EndDone, "aa", "", 7},
		// A let in a let's term.
		{`(let x = (let y = "a" in (: 'b' y)) in (: 'c' x))`, impl.EndDone, "cba", "", 5},
	})
}

// Names are bound in all ways, many levels deep, and each is asked for from the innermost place.
func TestNamesFromAllDistances(t *testing.T) {
	t.Parallel()
	for _, levels := range []int{1, 2, 3, 4, 5, 6, 7, 8, 9, 15, 16, 17, 31, 32, 33, 63, 64, 65, 100, 150} {
		var names []string
		want := ""
		char := func() impl.Core {
			letter := string(rune('a' + len(want)*7%26))
			want += letter
			return coreChar(letter)
		}
		name := func() string {
			names = append(names, "n"+strconv.Itoa(len(names)))
			return names[len(names)-1]
		}
		var frames []func(impl.Core) impl.Core
		for i := range levels {
			a, b, c := char(), char(), char()
			x, y, z := name(), name(), name()
			all := x + " " + y + " " + z
			frames = append(frames, []func(impl.Core) impl.Core{
				func(body impl.Core) impl.Core { return coreLet(all, a, b, c, body) },
				func(body impl.Core) impl.Core { return coreApp(coreLam(all, body), a, b, c) },
				func(body impl.Core) impl.Core { return coreApp(coreApp(coreLam(all, body), a), b, c) },
				func(body impl.Core) impl.Core { return coreApp(coreApp(coreApp(coreLam(all, body), a), b), c) },
				func(body impl.Core) impl.Core { return coreApp(coreLam(x, coreLam(y+" "+z, body)), a, b, c) },
				func(body impl.Core) impl.Core {
					return coreCase("", []impl.Core{coreCon("C", a, b, c)}, coreAlt("C "+all, body))
				},
				func(body impl.Core) impl.Core {
					return coreCase("whole", []impl.Core{coreCon("C", a, b, c)}, coreAlt("C "+all, body))
				},
				func(body impl.Core) impl.Core {
					return coreCase(x, []impl.Core{a, coreCase(y, []impl.Core{b, coreCase(z, []impl.Core{c, body})})})
				},
			}[(i*5+levels)%8])
		}
		list := coreCon("[]")
		for _, name := range slices.Backward(names) {
			list = coreCon(":", coreVar(name), list)
		}
		for _, frame := range slices.Backward(frames) {
			list = frame(list)
		}
		if got := checkRuns17(t, list, 1, "", impl.MaxSteps); got.Out != want || got.End != impl.EndDone {
			t.Errorf("%d levels tell %v, not %q", levels, got, want)
		}
	}
}
