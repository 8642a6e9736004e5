package tests

import (
	"strings"
	"testing"

	"loop.example/g00017/impl"
)

func TestBetaRows(t *testing.T) {
	checkPassRows(t, impl.PassBeta, []passRow{
		// Fewer arguments than names, as many, and more.
		{`((\x y -> (x y)) a)`, `(let x = a in (\y -> (x y)))`},
		{`((\x y z -> (x y)) a b)`, `(let x = a; y = b in (\z -> (x y)))`},
		{`((\x -> (x z)) a)`, `(let x = a in (x z))`},
		{`((\x y -> (x y)) a b)`, `(let x = a; y = b in (x y))`},
		{`((\x -> (x z)) a b)`, `(let x = a in ((x z) b))`},
		{`((\x y -> (x y)) a b c d)`, `(let x = a; y = b in ((x y) c d))`},
		// Names that stand free in the arguments that are let.
		{`((\x -> (x x)) x)`, `(let x' = x in (x' x'))`},
		{`((\x y -> (x y)) y x)`, `(let x' = y; y' = x in (x' y'))`},
		{`((\x y -> (x y)) y 1)`, `(let x = y; y' = 1 in (x y'))`},
		{`((\x y z -> (x y z)) (f x z) 1 2)`, `(let x' = (f x z); y = 1; z' = 2 in (x' y z'))`},
		{`((\x y -> (x y)) x)`, `(let x' = x in (\y -> (x' y)))`},
		{`((\x y -> (x y)) y)`, `(let x = y in (\y -> (x y)))`},
		{`((\x y -> (x y)) (x y))`, `(let x' = (x y) in (\y -> (x' y)))`},
		{`((\x -> x) (\x -> x))`, `(let x = (\x -> x) in x)`},
		{`((\x -> (\x -> x)) x)`, `(let x' = x in (\x -> x))`},
		// Names that stand free in those that are left.
		{`((\x -> x) 1 x)`, `(let x' = 1 in (x' x))`},
		{`((\x y -> (x y)) 1 2 y 3)`, `(let x = 1; y' = 2 in ((x y') y 3))`},
		{`((\x -> x) x x)`, `(let x' = x in (x' x))`},
		{`((\x y -> (x y)) y 2 x)`, `(let x' = y; y' = 2 in ((x' y') x))`},
		{`((\x -> x) 1 (\x -> x))`, `(let x = 1 in (x (\x -> x)))`},
		{`((\x x' -> (x x')) x 2 x')`, `(let x''' = x; x'' = 2 in ((x''' x'') x'))`},
		// Names that a new one may not be.
		{`((\x -> (x x')) x)`, `(let x'' = x in (x'' x'))`},
		{`((\x -> (\x' -> (x x'))) x)`, `(let x'' = x in (\x' -> (x'' x')))`},
		{`((\x -> x) (\x' -> x))`, `(let x'' = (\x' -> x) in x'')`},
		{`((\x -> x) (x x'))`, `(let x'' = (x x') in x'')`},
		{`((\x x' -> (x x')) x)`, `(let x'' = x in (\x' -> (x'' x')))`},
		{`((\x x' -> (x x')) x 1)`, `(let x'' = x; x' = 1 in (x'' x'))`},
		{`((\x x' -> (x x')) x x')`, `(let x'' = x; x''' = x' in (x'' x'''))`},
		{`((\x -> x) 1 x x')`, `(let x'' = 1 in (x'' x x'))`},
		{`((\x -> x) x' x)`, `(let x'' = x' in (x'' x))`},
		{`((\x -> x) (\x' -> x') x)`, `(let x'' = (\x' -> x') in (x'' x))`},
		{`((\x -> (x x')) 1 x)`, `(let x'' = 1 in ((x'' x') x))`},
		{`((\x x' -> (x x')) 1 2 x)`, `(let x'' = 1; x' = 2 in ((x'' x') x))`},
		// Where it applies, and just does not.
		{`(f x)`, "-"},
		{`(\x -> x)`, "-"},
		{`((let a = 1 in (\x -> x)) 2)`, "-"},
		{`((f (\x -> x)) 2)`, "-"},
		{`(C (\x -> x) 2)`, "-"},
		{`(f (\x -> x) 2)`, "-"},
		{`((case y of { _ -> (\x -> x) }) 2)`, "-"},
		{`(primSeq (\x -> x) 2)`, "-"},
		{`(((\x -> x) a) b)`, `((let x = a in x) b)`},
		{`((\x -> (\y -> (y x))) a b)`, `(let x = a in (let y = b in (y x)))`},
		{`((\x -> (\y -> (y x))) y b)`, `(let x = y in (let y = b in (y x)))`},
		{`(C ((\x -> x) 1) (\y -> ((\z -> z) y)))`, `(C (let x = 1 in x) (\y -> (let z = y in z)))`},
		{`(case ((\x -> x) 1) of v { A a -> ((\x -> x) a); _ -> ((\x -> x) v) })`, `(case (let x = 1 in x) of v { A a -> (let x = a in x); _ -> (let x = v in x) })`},
		{`(let f = ((\x -> x) f) in ((\x -> x) f))`, `(let f = (let x = f in x) in (let x = f in x))`},
		{`((\x -> (x x)) (\x -> (x x)))`, `(let x = (\x -> (x x)) in (x x))`},
	})
}

func TestKnownPrimRows(t *testing.T) {
	largest := impl.BigText(bigFrom(power(1280, -1)))
	checkPassRows(t, impl.PassKnown, []passRow{
		{"(primAdd 1 2)", "3"}, {"(primSub 1 2)", "-1"}, {"(primMul -3 4)", "-12"},
		{"(primDiv -7 2)", "-4"}, {"(primMod -7 2)", "1"}, {"(primDiv 7 -2)", "-4"}, {"(primMod 7 -2)", "-1"},
		{"(primEq 1 1)", "True"}, {"(primEq 1 2)", "False"}, {"(primLess 1 2)", "True"}, {"(primLess 2 2)", "False"},
		{"(primOrd 'a')", "97"}, {"(primOrd '\\n')", "10"}, {"(primChr 97)", "'a'"}, {"(primChr 0)", "'\x00'"},
		{"(primSub " + largest + " 1)", impl.BigText(bigFrom(power(1280, -2)))},
		// Each error.
		{"(primAdd " + largest + " 1)", "-"}, {"(primSub -" + largest + " 1)", "-"}, {"(primMul " + largest + " 2)", "-"},
		{"(primDiv 1 0)", "-"}, {"(primMod 1 0)", "-"}, {"(primDiv 0 0)", "-"},
		{"(primChr 256)", "-"}, {"(primChr -1)", "-"}, {"(primChr " + largest + ")", "-"},
		// Each that is stuck.
		{"(primAdd 'a' 1)", "-"}, {"(primAdd 1 'a')", "-"}, {"(primSub 'a' 'b')", "-"}, {"(primMul 'a' 1)", "-"}, {"(primDiv 1 'a')", "-"}, {"(primMod 'a' 1)", "-"},
		{"(primEq 'a' 'a')", "-"}, {"(primLess 'a' 'b')", "-"}, {"(primEq 1 'a')", "-"}, {"(primOrd 1)", "-"}, {"(primChr 'a')", "-"},
		// What is not known.
		{"(primAdd x 1)", "-"}, {"(primAdd 1 x)", "-"}, {"(primEq True True)", "-"}, {"(primOrd \"a\")", "-"},
		{"(primShow 1)", "-"}, {"(primShow 'a')", "-"}, {"(primError 1)", "-"}, {"(primError 'a')", "-"}, {`(primError "a")`, "-"},
		// What is known only then.
		{"(primMul (primAdd 1 2) 4)", "12"}, {"(primChr (primAdd (primOrd 'a') 1))", "'b'"}, {"(primShow (primAdd 1 2))", "(primShow 3)"},
		{"(primAdd (primDiv 1 0) (primAdd 1 1))", "(primAdd (primDiv 1 0) 2)"},
		{"(primEq (primEq 1 1) True)", "(primEq True True)"},
		{`(\x -> (f (primAdd 1 1) (let y = (primAdd 2 2) in (case (f y) of { A -> (primAdd 3 3); _ -> (primAdd 4 4) }))))`, `(\x -> (f 2 (let y = 4 in (case (f y) of { A -> 6; _ -> 8 }))))`},
	})
}

func TestKnownSeqRows(t *testing.T) {
	rows := []passRow{{`(primSeq (\x -> x) y)`, "y"}, {"(primSeq (C x y) y)", "y"}, {"(primSeq C (f y))", "(f y)"}, {"(primSeq 1 y)", "y"}, {"(primSeq 'c' y)", "y"}}
	for _, other := range strings.Split(`x | "t" | (f x) | (let x = 1 in x) | (case x of { _ -> 1 }) | (primShow x) | (primError x)`, " | ") {
		rows = append(rows, passRow{"(primSeq " + other + " y)", "-"}, passRow{"(primSeq x " + other + ")", "-"})
	}
	rows = append(rows,
		passRow{"(primSeq (primAdd 1 1) y)", "y"},
		passRow{"(primSeq (primAdd 1 x) (primSeq 1 y))", "(primSeq (primAdd 1 x) y)"},
		passRow{"(primSeq (primSeq 1 (\\x -> x)) (primAdd 1 2))", "3"},
		passRow{"(primAdd (primSeq 1 2) 3)", "5"},
	)
	checkPassRows(t, impl.PassKnown, rows)
}

func TestKnownCaseRows(t *testing.T) {
	checkPassRows(t, impl.PassKnown, []passRow{
		// An alternative of the constructor.
		{"(case C of { C -> x; _ -> y })", "x"},
		{"(case C of { D -> x; C -> y })", "y"},
		{"(case (C 1 z) of { C a b -> (f a b); D -> x })", "(let a = 1; b = z in (f a b))"},
		{"(case (C 1) of { C a -> x })", "(let a = 1 in x)"},
		// With a name: it is none of the alternative's names, one of them, stands free in the body, and does not.
		{"(case C of v { C -> (f v) })", "(let v = C in (f v))"},
		{"(case C of v { C -> x })", "x"},
		{"(case (C 1) of v { C a -> (f v a) })", "(let a = 1 in (let v = (C a) in (f v a)))"},
		{"(case (C 1) of v { C a -> a; _ -> v })", "(let a = 1 in a)"},
		{"(case (C 1) of v { C v -> v })", "(let v = 1 in v)"},
		{"(case (C 1 2) of v { C a v -> (v a) })", "(let a = 1; v = 2 in (v a))"},
		{`(case (C 1) of v { C a -> (\v -> v) })`, `(let a = 1 in (\v -> v))`},
		// Names that stand free in the kids.
		{"(case (C a) of { C a -> a })", "(let a' = a in a')"},
		{"(case (C b a) of { C a b -> (a b) })", "(let a' = b; b' = a in (a' b'))"},
		{"(case (C v) of v { C a -> (v a) })", "(let a = v in (let v = (C a) in (v a)))"},
		{"(case (C a) of v { C a -> (v a) })", "(let a' = a in (let v = (C a') in (v a')))"},
		{"(case (C a) of a' { C a -> (a' a) })", "(let a'' = a in (let a' = (C a'') in (a' a'')))"},
		{"(case (C v) of v { C v -> v })", "(let v' = v in v')"},
		{"(case (C a a') of { C a b -> (a b) })", "(let a'' = a; b = a' in (a'' b))"},
		{"(case (C a) of { C a -> (a a') })", "(let a'' = a in (a'' a'))"},
		{"(case (C a) of { C a -> a; D a' -> a; _ -> a' })", "(let a' = a in a')"},
		// Another number of names, or none of the constructor: the default, or it stays.
		{"(case (C 1) of { C -> x; _ -> y })", "y"},
		{"(case C of { C a -> a; _ -> y })", "y"},
		{"(case (C 1 2) of { C a -> a })", "-"},
		{"(case (C 1) of { D a -> a })", "-"},
		{"(case (C 1) of v { D a -> a; _ -> v })", "(let v = (C 1) in v)"},
		{"(case (C 1) of v { C -> v; _ -> (f v) })", "(let v = (C 1) in (f v))"},
		{"(case (C v) of v { _ -> (f v) })", "(let v' = (C v) in (f v'))"},
		{"(case (C v v') of v { _ -> (f v) })", "(let v'' = (C v v') in (f v''))"},
		{"(case (C v) of v { _ -> (f v') })", "(f v')"},
		{"(case (C v) of v { _ -> (v v') })", "(let v'' = (C v) in (v'' v'))"},
		{`(case (C v) of v { _ -> (\v -> v) })`, `(\v -> v)`},
		{"(case (C 1) of { _ -> y })", "y"},
		// Other values have the default alone.
		{"(case 3 of v { _ -> (primAdd v w) })", "(let v = 3 in (primAdd v w))"},
		{"(case 3 of v { _ -> w })", "w"},
		{"(case 3 of { C -> x; _ -> y })", "y"},
		{"(case 3 of { C -> x })", "-"},
		{"(case 'c' of v { C -> x; _ -> (f v) })", "(let v = 'c' in (f v))"},
		{"(case 'c' of { C -> x })", "-"},
		{`(case (\x -> v) of v { C -> x; _ -> (f v) })`, `(let v' = (\x -> v) in (f v'))`},
		{`(case (\v -> v) of v { _ -> (f v) })`, `(let v = (\v -> v) in (f v))`},
		{`(case (\x -> x) of { C -> x })`, "-"},
		// What is not known.
		{"(case x of { C -> x; _ -> y })", "-"},
		{`(case "t" of { : a b -> a; _ -> y })`, "-"},
		{"(case (f C) of { C -> x; _ -> y })", "-"},
		{"(case (let x = 1 in C) of { C -> x; _ -> y })", "-"},
		{"(case (case x of { _ -> C }) of { C -> x; _ -> y })", "-"},
		{"(case (primShow 1) of { [] -> x; _ -> y })", "-"},
		// What is known only then.
		{"(case (primEq 1 1) of { True -> x; False -> y })", "x"},
		{"(case (primLess 1 x) of { True -> x; False -> y })", "-"},
		{"(case (case 1 of { _ -> C }) of { C -> (primAdd 1 1) })", "2"},
		{"(case (case (primSeq 1 C) of v { C -> v }) of { C -> x })", "(case (let v = C in v) of { C -> x })"},
		{"(case (C (primAdd 1 1)) of { C a -> (primAdd 2 2) })", "(let a = 2 in 4)"},
	})
}

// Each make of case with each kind of value.
func TestKnownCasesOfEachMake(t *testing.T) {
	t.Parallel()
	for _, looked := range strings.Split(`C | (C 1) | (C a b) | (C v a') | D | 7 | 'c' | (\a -> v) | "t" | x | (f C) | (let a = 1 in C) | (case x of { _ -> C }) | (primAdd 1 2)`, " | ") {
		for _, name := range []string{"", "v ", "a ", "a' "} {
			for _, alts := range []string{"", "C -> v", "C a -> (v a)", "C a b -> (v a b a')", "C v a -> (v a)", "D -> 1; C a' -> (a' v)"} {
				for _, other := range []string{"", "_ -> (f v a)", "_ -> w"} {
					rows := strings.Trim(alts+"; "+other, "; ")
					if rows != "" {
						checkPasses(t, readCore("(case "+looked+" of "+name+"{ "+rows+" })"))
					}
				}
			}
		}
	}
}

// Each prim with each kind of term.
func TestKnownPrimsOfEachKind(t *testing.T) {
	t.Parallel()
	kids := strings.Split(`0 | 7 | -3 | 255 | 256 | 1208925819614629174706176 | 'a' | 'b' | x | "t" | C | (C 1) | (f x) | (\x -> x) | (let x = 1 in x) | (case x of { _ -> 1 }) | (primAdd 1 2) | (primChr 1)`, " | ")
	for name, count := range primCounts() {
		for _, first := range kids {
			if count == 1 {
				checkPasses(t, corePrim(name, readCore(first)))
				continue
			}
			for _, second := range kids {
				checkPasses(t, corePrim(name, readCore(first), readCore(second)))
			}
		}
	}
}

func TestDeadRows(t *testing.T) {
	checkPassRows(t, impl.PassDead, []passRow{
		{"(let x = 1 in x)", "-"},
		{"(let x = 1 in y)", "y"},
		{"(let x = x in y)", "y"},
		{"(let x = x in x)", "-"},
		{"(let x = y; y = 1; z = z in x)", "(let x = y; y = 1 in x)"},
		{"(let x = 1; y = x; z = y in z)", "-"},
		{"(let x = 1; y = x; z = y in y)", "(let x = 1; y = x in y)"},
		{"(let x = 1; y = x; z = y in x)", "(let x = 1 in x)"},
		{"(let x = 1; y = x; z = y in w)", "w"},
		{"(let x = y; y = x in w)", "w"},
		{"(let x = y; y = x; z = x in w)", "w"},
		{"(let x = y; y = x; z = x in z)", "-"},
		{"(let x = y; y = x; z = w in z)", "(let z = w in z)"},
		{"(let a = b; b = c; c = a; d = a in (f d))", "-"},
		{"(let a = b; b = c; c = a; d = a in (f a))", "(let a = b; b = c; c = a in (f a))"},
		{"(let b = 1; a = 2; c = 3 in (c b))", "(let b = 1; c = 3 in (c b))"},
		// What is bound again leads nowhere.
		{`(let x = 1 in (\x -> x))`, `(\x -> x)`},
		{"(let x = 1 in (let x = 2 in x))", "(let x = 2 in x)"},
		{"(let x = 1; y = 2 in (case x of x { A y -> y; _ -> x }))", "(let x = 1 in (case x of x { A y -> y; _ -> x }))"},
		{`(let x = 1; y = (\x -> x) in y)`, `(let y = (\x -> x) in y)`},
		{"(let x = 1 in (case z of { A x -> x; _ -> x }))", "-"},
		{"(let x = 1 in (case z of x { A -> x; _ -> x }))", "(case z of x { A -> x; _ -> x })"},
		// One goes behind another, also further out.
		{"(let a = 1 in (let b = a in 5))", "5"},
		{"(let a = 1; c = a in (let b = a in c))", "(let a = 1; c = a in c)"},
		{"(let a = 1; c = a in (let b = c in (f a)))", "(let a = 1 in (f a))"},
		{"(let a = 1 in (C (let b = a in 5) (let c = a in 6)))", "(C 5 6)"},
		{"(let a = 1 in (C (let b = a in 5) (let c = a in c)))", "(let a = 1 in (C 5 (let c = a in c)))"},
		{`(let a = 1 in (\a -> (let b = a in 5)))`, `(\a -> 5)`},
		{"(let a = 1 in (case x of a { A -> (let b = a in 5); _ -> a }))", "(case x of a { A -> 5; _ -> a })"},
		{"(let a = 1 in (case (let b = a in x) of a { A -> a }))", "(case x of a { A -> a })"},
		{"(let a = 1 in (case x of { A a -> (let b = a in 5); B -> (let b = a in 6) }))", "(case x of { A a -> 5; B -> 6 })"},
		{"(let a = (let b = a in 1) in (f (let a = a in 2)))", "(f 2)"},
		{"(let a = (let b = c in 1); c = a in a)", "(let a = 1 in a)"},
		{"(f (let x = 1 in y) (let z = 1 in z))", "(f y (let z = 1 in z))"},
		{"(let x = (f y) in (let y = (f x) in 1))", "1"},
	})
}

func TestInlineRows(t *testing.T) {
	checkPassRows(t, impl.PassInline, []passRow{
		// What is small, however often its name stands.
		{"(let x = y in (f x x))", "(f y y)"},
		{"(let x = 1 in (f x x))", "(f 1 1)"},
		{"(let x = 'c' in (f x x))", "(f 'c' 'c')"},
		{"(let x = C in (f x x))", "(f C C)"},
		{"(let x = y in z)", "z"}, {"(let x = 1 in z)", "z"}, {"(let x = 'c' in z)", "z"}, {"(let x = C in z)", "z"},
		{`(let x = 1 in (f x (\y -> x)))`, `(f 1 (\y -> 1))`},
		{`(let x = y in (\z -> (x z x)))`, `(\z -> (y z y))`},
		{"(let x = x in x)", "-"},
		{"(let x = x in y)", "-"},
		// Other kinds: the name once, twice, never, within a CLam.
		{`(let x = "t" in (f x))`, `(f "t")`}, {`(let x = "t" in (f x x))`, "-"}, {`(let x = "t" in f)`, "-"}, {`(let x = "t" in (\y -> x))`, "-"},
		{"(let x = (C y) in (f x))", "(f (C y))"}, {"(let x = (C y) in (f x x))", "-"}, {"(let x = (C y) in f)", "-"}, {`(let x = (C y) in (f (\y -> x)))`, "-"},
		{"(let x = (g y) in (f x))", "(f (g y))"}, {"(let x = (g y) in (x x))", "-"}, {"(let x = (g y) in f)", "-"}, {`(let x = (g y) in (f (\y -> (f x))))`, "-"},
		{`(let x = (\z -> z) in (f x))`, `(f (\z -> z))`}, {`(let x = (\z -> z) in (x x))`, "-"}, {`(let x = (\z -> z) in f)`, "-"}, {`(let x = (\z -> z) in (\y -> x))`, "-"},
		{"(let x = (let z = z in z) in (f x))", "(f (let z = z in z))"}, {"(let x = (let z = z in z) in (x x))", "-"},
		{"(let x = (case y of { A -> 1 }) in (f x))", "(f (case y of { A -> 1 }))"}, {"(let x = (case y of { A -> 1 }) in (x x))", "-"},
		{"(let x = (primShow y) in x)", "(primShow y)"}, {"(let x = (primShow y) in (x x))", "-"}, {`(let x = (primShow n) in (\y -> x))`, "-"},
		// Once, and again where it is another one.
		{`(let x = (g y) in (f x (\x -> x)))`, `(f (g y) (\x -> x))`},
		{`(let x = (g y) in (f x (\z -> x)))`, "-"},
		{"(let x = (g y) in (let x = x in x))", "-"},
		{"(let x = (g y) in (case x of x { A x -> x; _ -> x }))", "(case (g y) of x { A x -> x; _ -> x })"},
		{"(let x = (g y) in (case z of { A x -> x; B -> x }))", "(case z of { A x -> x; B -> (g y) })"},
		{"(let x = (g y) in (case z of { A -> x; B -> x }))", "-"},
		{"(let x = (g y) in (let z = x in (f z z)))", "(let z = (g y) in (f z z))"},
		{"(let x = (g y) in (let z = (f x); w = z in (f w)))", "(let z = (f (g y)); w = z in (f w))"},
		// In its own kid, and more names than one.
		{"(let x = (f x) in (g x))", "-"},
		{"(let x = (C x) in x)", "-"},
		{`(let x = (\y -> x) in x)`, "-"},
		{`(let x = (\x -> x) in x)`, `(\x -> x)`},
		{"(let x = 1; y = 2 in (f x y))", "-"},
		{"(let x = y; y = 1 in x)", "-"},
		// No name is caught.
		{"(let x = (g y) in (let y = 2 in (f x y)))", "(f (g y) 2)"},
		{`(let x = y in (\y -> (x y)))`, `(\y' -> (y y'))`},
		{`(let x = y in (\y y' -> (x y)))`, `(\y'' y' -> (y y''))`},
		{"(let x = (g y) in (case z of y { A y -> 1; _ -> (x y) }))", "(case z of y' { A y -> 1; _ -> ((g y) y') })"},
		{"(let x = (g y) in (case z of { A y -> (x y) }))", "(case z of { A y' -> ((g y) y') })"},
		{"(let x = y in (let y = (f y); z = x in (g y z)))", "(let y' = (f y'); z = y in (g y' z))"},
		// One makes another one apply, also further out.
		{"(let x = (let y = 1 in y) in (f x x))", "(f 1 1)"},
		{"(let y = (f 1) in (let x = y in (g y)))", "(g (f 1))"},
		{"(let y = (f 1) in (C (let x = y in 1) y))", "(C 1 (f 1))"},
		{"(let y = (C (let x = y in 1)) in (g y))", "(g (C 1))"},
		{`(let y = (f 1) in (C (\z -> (let x = y in 1)) y))`, `(C (\z -> 1) (f 1))`},
		{`(let y = (f 1) in (C (\y -> (let x = y in 1)) y y))`, `(let y = (f 1) in (C (\y -> 1) y y))`},
		{"(let y = (f 1) in (case (let x = y in 1) of y { A y -> y; _ -> y }))", "(case (let x = (f 1) in 1) of y { A y -> y; _ -> y })"},
		{"(let a = 1 in (let b = a in (let c = b in (f c b a))))", "(f 1 1 1)"},
		{"(let a = (f 1) in (let b = (f a) in (let c = (f b) in c)))", "(f (f (f 1)))"},
	})
}

func TestFloatRows(t *testing.T) {
	checkPassRows(t, impl.PassFloat, []passRow{
		{"((let x = 1 in x) y)", "(let x = 1 in (x y))"},
		{"((let x = 1; y = x in (f x)) a b)", "(let x = 1; y = x in ((f x) a b))"},
		{"(case (let x = 1 in (f x)) of { A -> 1 })", "(let x = 1 in (case (f x) of { A -> 1 }))"},
		{"(case (let x = 1 in (f x)) of v { A a -> (v a); _ -> v })", "(let x = 1 in (case (f x) of v { A a -> (v a); _ -> v }))"},
		// Names that stand free in what comes in.
		{"((let x = 1 in x) x)", "(let x' = 1 in (x' x))"},
		{"((let x = (f x y); y = x in (x y)) 1 y)", "(let x = (f x y'); y' = x in ((x y') 1 y))"},
		{"((let x = (f x y); y = x in (x y)) (y x))", "(let x' = (f x' y'); y' = x' in ((x' y') (y x)))"},
		{`((let x = 1 in x) (\x -> x))`, `(let x = 1 in (x (\x -> x)))`},
		{"(case (let x = 1 in x) of { A -> x })", "(let x' = 1 in (case x' of { A -> x }))"},
		{"(case (let x = 1 in x) of { A x -> x; _ -> 2 })", "(let x = 1 in (case x of { A x -> x; _ -> 2 }))"},
		{"(case (let x = 1 in x) of { A x -> x; _ -> x })", "(let x' = 1 in (case x' of { A x -> x; _ -> x }))"},
		{"(case (let x = 1 in x) of x { A -> x; _ -> x })", "(let x = 1 in (case x of x { A -> x; _ -> x }))"},
		{"(case (let x = 1; y = 2 in (x y)) of x { A y -> (x y); B -> y })", "(let x = 1; y' = 2 in (case (x y') of x { A y -> (x y); B -> y }))"},
		// Names that a new one may not be.
		{"((let x = 1 in (x x')) x)", "(let x'' = 1 in ((x'' x') x))"},
		{"((let x = 1 in x) x x')", "(let x'' = 1 in (x'' x x'))"},
		{`((let x = (\x' -> x) in x) x)`, `(let x'' = (\x' -> x'') in (x'' x))`},
		{`((let x = 1 in x) (x (\x' -> 1)))`, `(let x'' = 1 in (x'' (x (\x' -> 1))))`},
		{"((let x = 1; x' = 2 in (x x')) x)", "(let x'' = 1; x' = 2 in ((x'' x') x))"},
		{"((let x = 1; x' = 2 in (x x')) x x')", "(let x'' = 1; x''' = 2 in ((x'' x''') x x'))"},
		{"((let x' = 1; x = 2 in (x x')) x x')", "(let x'' = 1; x''' = 2 in ((x''' x'') x x'))"},
		{"(case (let x = 1 in x) of x' { A -> x })", "(let x'' = 1 in (case x'' of x' { A -> x }))"},
		{"(case (let x = 1 in x) of { A x' -> x })", "(let x'' = 1 in (case x'' of { A x' -> x }))"},
		// Where it just does not apply.
		{"(f (let x = 1 in x))", "-"},
		{"(C (let x = 1 in x) y)", "-"},
		{"(primAdd (let x = 1 in x) 1)", "-"},
		{`(\y -> (let x = 1 in x))`, "-"},
		{"(let y = (let x = 1 in x) in y)", "-"},
		{"(case y of { A -> (let x = 1 in x); _ -> (let x = 1 in x) })", "-"},
		{`((\y -> (let x = 1 in x)) z)`, "-"},
		// One makes another one apply, also further out.
		{"((let x = 1 in (let y = 2 in (x y))) z)", "(let x = 1 in (let y = 2 in ((x y) z)))"},
		{"(((let x = 1 in x) a) x)", "(let x' = 1 in ((x' a) x))"},
		{"(((let x = 1 in x) x) x)", "(let x' = 1 in ((x' x) x))"},
		{"(((let x = 1 in x) x) x')", "(let x'' = 1 in ((x'' x) x'))"},
		{"((case (let x = 1 in x) of { A -> x }) x)", "(let x' = 1 in ((case x' of { A -> x }) x))"},
		{"(case ((let x = 1 in x) y) of { A -> x })", "(let x' = 1 in (case (x' y) of { A -> x }))"},
		{"(C (case (case (let x = 1 in x) of { A -> 1 }) of { B -> 2 }))", "(C (let x = 1 in (case (case x of { A -> 1 }) of { B -> 2 })))"},
		{"((let x = ((let y = 1 in y) x) in x) y)", "(let x = (let y = 1 in (y x)) in (x y))"},
	})
}

func TestStrictPassRows(t *testing.T) {
	checkPassRows(t, impl.PassStrict, []passRow{
		// Each kind of kid, where the last kid is strict.
		{"(let x = (f y) in (x 1))", "(case (f y) of x { _ -> (x 1) })"},
		{"(let x = (primShow n) in (x 1))", "(case (primShow n) of x { _ -> (x 1) })"},
		{"(let x = (case y of { A -> 1 }) in (x 1))", "(case (case y of { A -> 1 }) of x { _ -> (x 1) })"},
		{"(let x = (let y = y in y) in (x 1))", "(case (let y = y in y) of x { _ -> (x 1) })"},
		{`(let x = "t" in (x 1))`, `(case "t" of x { _ -> (x 1) })`},
		{"(let x = y in (x 1))", "-"}, {"(let x = 1 in (x 1))", "-"}, {"(let x = 'c' in (x 1))", "-"}, {"(let x = C in (x 1))", "-"}, {"(let x = (C y) in (x 1))", "-"}, {`(let x = (\y -> y) in (x 1))`, "-"},
		// In its own kid, and more names than one.
		{"(let x = (f x) in (x 1))", "-"},
		{`(let x = (f (\x -> x)) in (x 1))`, `(case (f (\x -> x)) of x { _ -> (x 1) })`},
		{"(let x = (f y); z = 1 in (x 1))", "-"},
		// Each sort of what is strict, and what is not.
		{"(let x = (f y) in x)", "(case (f y) of x { _ -> x })"},
		{"(let x = (f y) in y)", "-"},
		{"(let x = (f y) in 1)", "-"},
		{"(let x = (f y) in (g x))", "-"},
		{"(let x = (f y) in ((x 1) 2))", "(case (f y) of x { _ -> ((x 1) 2) })"},
		{"(let x = (f y) in (C x x))", "-"},
		{`(let x = (f y) in (\z -> x))`, "-"},
		{`(let x = (f y) in ((\z -> x) 1))`, "-"},
		{`(let x = (f y) in "t")`, "-"},
		{"(let x = (f y) in (primAdd 1 x))", "(case (f y) of x { _ -> (primAdd 1 x) })"},
		{"(let x = (f y) in (primAdd x y))", "(case (f y) of x { _ -> (primAdd x y) })"},
		{"(let x = (f y) in (primSeq z x))", "(case (f y) of x { _ -> (primSeq z x) })"},
		{"(let x = (f y) in (primSeq x z))", "(case (f y) of x { _ -> (primSeq x z) })"},
		{"(let x = (f y) in (primAdd 1 y))", "-"},
		{"(let x = (f y) in (primShow (C x)))", "-"},
		{"(let x = (f y) in (primError z))", "(case (f y) of x { _ -> (primError z) })"},
		// A CLet: by its last kid, by one of its names, by several, and where it binds the name.
		{"(let x = (f y) in (let z = 1 in x))", "(case (f y) of x { _ -> (let z = 1 in x) })"},
		{"(let x = (f y) in (let z = x in z))", "(case (f y) of x { _ -> (let z = x in z) })"},
		{"(let x = (f y) in (let z = (x 1) in (C z)))", "-"},
		{"(let x = (f y) in (let z = w; w = x in z))", "(case (f y) of x { _ -> (let z = w; w = x in z) })"},
		{"(let x = (f y) in (let w = x; z = w in z))", "(case (f y) of x { _ -> (let w = x; z = w in z) })"},
		{"(let x = (f y) in (let z = w; w = z in z))", "-"},
		{"(let x = (f y) in (let z = (g w); w = x in z))", "-"},
		{"(let x = (f y) in (let x = 1 in x))", "-"},
		{"(let x = (f y) in (let x = 1 in (primError z)))", "-"},
		{"(let x = (f y) in (let x = 1; z = x in z))", "-"},
		// A CCase: by its first kid, by all else, by some only, and where one binds the name.
		{"(let x = (f y) in (case x of { A -> 1; _ -> 2 }))", "(case (f y) of x { _ -> (case x of { A -> 1; _ -> 2 }) })"},
		{"(let x = (f y) in (case x of x { A x -> 1 }))", "(case (f y) of x { _ -> (case x of x { A x -> 1 }) })"},
		{"(let x = (f y) in (case z of { A -> x; B b -> (x b); _ -> (primAdd x 1) }))", "(case (f y) of x { _ -> (case z of { A -> x; B b -> (x b); _ -> (primAdd x 1) }) })"},
		{"(let x = (f y) in (case z of { A -> x; B b -> b; _ -> x }))", "-"},
		{"(let x = (f y) in (case z of { A -> x; _ -> 1 }))", "-"},
		{"(let x = (f y) in (case z of { A -> 1; _ -> x }))", "-"},
		{"(let x = (f y) in (case z of { A -> x }))", "(case (f y) of x { _ -> (case z of { A -> x }) })"},
		{"(let x = (f y) in (case z of { _ -> x }))", "(case (f y) of x { _ -> (case z of { _ -> x }) })"},
		{"(let x = (f y) in (case z of { A -> x; B -> (primError z) }))", "(case (f y) of x { _ -> (case z of { A -> x; B -> (primError z) }) })"},
		{"(let x = (f y) in (case z of { A x -> x; _ -> x }))", "-"},
		{"(let x = (f y) in (case z of { A x -> (primError z); _ -> x }))", "-"},
		{"(let x = (f y) in (case z of x { A -> x; _ -> x }))", "-"},
		{"(let x = (f y) in (case z of x { A -> x }))", "-"},
		{"(let x = (f y) in (case z of v { A -> x; _ -> x }))", "(case (f y) of x { _ -> (case z of v { A -> x; _ -> x }) })"},
		// Several places, and one that makes another one apply further out: a CCase of what never comes to a value is strict in its own name, too.
		{"(let x = (f y) in (let z = (f x) in (primAdd x z)))", "(case (f y) of x { _ -> (case (f x) of z { _ -> (primAdd x z) }) })"},
		{"(C (let x = (f y) in x) (let x = (f y) in (C x)))", "(C (case (f y) of x { _ -> x }) (let x = (f y) in (C x)))"},
		{"(let x = (f y) in (let x = (primError z) in x))", "(case (f y) of x { _ -> (case (primError z) of x { _ -> x }) })"},
		{"(let x = (f y) in (C (let x = (primError z) in x)))", "(let x = (f y) in (C (case (primError z) of x { _ -> x })))"},
		{"(let w = (f y) in (let x = w; v = x in (let x = (primError z) in x)))", "(case (f y) of w { _ -> (let x = w; v = x in (case (primError z) of x { _ -> x })) })"},
		{"(let w = (f y) in (let v = (f w); x = w in (let x = (primError z) in x)))", "(case (f y) of w { _ -> (let v = (f w); x = w in (case (primError z) of x { _ -> x })) })"},
		{"(let w = (f u) in (let y = w; q = 1 in (let w = 1 in (let y = (primError z) in y))))", "(case (f u) of w { _ -> (let y = w; q = 1 in (let w = 1 in (case (primError z) of y { _ -> y }))) })"},
		{"(C (let w = (f u) in (let y = w; q = 1 in (let w = 1 in (let y = (primError z) in y)))))", "(C (case (f u) of w { _ -> (let y = w; q = 1 in (let w = 1 in (case (primError z) of y { _ -> y }))) }))"},
		{"(let w = (f u) in (let v = w; q = 1 in (let w = 1 in (let y = v; q = 1 in (let v = 1 in (let y = (primError z) in y))))))", "(case (f u) of w { _ -> (let v = w; q = 1 in (let w = 1 in (let y = v; q = 1 in (let v = 1 in (case (primError z) of y { _ -> y }))))) })"},
		{`(let x = (f y) in (\x -> (let x = (primError z) in x)))`, `(let x = (f y) in (\x -> (case (primError z) of x { _ -> x })))`},
	})
}
