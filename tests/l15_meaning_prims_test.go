package tests

import (
	"math/big"
	"slices"
	"strings"
	"testing"

	"loop.example/g00017/impl"
)

// otherKinds has terms of values that are of no use to a prim which asks for another kind, with the steps that each takes.
func otherKinds() map[string]int64 {
	return map[string]int64{`[]`: 1, `(A 1)`: 1, `"7"`: 1, `True`: 1, `(\x -> x)`: 1, `((\x y -> x) 1)`: 2}
}

func TestPrimsAtOtherKinds(t *testing.T) {
	t.Parallel()
	var rows []meant
	stuck := func(text string, steps int64) { rows = append(rows, meant{text, impl.EndStuck, "", "", steps}) }
	for other, steps := range otherKinds() {
		for _, name := range strings.Fields("primAdd primSub primMul primDiv primMod primEq primLess") {
			stuck("("+name+" 7 "+other+")", 2+steps)
			stuck("("+name+" "+other+" 7)", 2+steps)
			stuck("("+name+" "+other+" "+other+")", 1+2*steps)
		}
		for _, name := range strings.Fields("primOrd primChr primShow") {
			stuck("("+name+" "+other+")", 1+steps)
		}
	}
	for _, name := range strings.Fields("primAdd primSub primMul primDiv primMod primEq primLess") {
		stuck("("+name+" 'a' 7)", 3)
		stuck("("+name+" 7 'a')", 3)
		stuck("("+name+" 'a' 'a')", 3)
	}
	stuck("(primOrd 7)", 2)
	stuck("(primChr 'a')", 2)
	stuck("(primShow 'a')", 2)
	checkMeant(t, rows)
}

// Kids are worked out in order, and all of them ahead of a look at their kinds.
func TestOrderOfPrimKids(t *testing.T) {
	t.Parallel()
	var rows []meant
	for _, name := range strings.Fields("primAdd primSub primMul primDiv primMod primEq primLess") {
		rows = append(rows, []meant{
			{"(" + name + ` (primError "a") (primError "b"))`, impl.EndError, "", "a", 3},
			{"(" + name + ` 1 (primError "b"))`, impl.EndError, "", "b", 4},
			{"(" + name + ` (primError "a") 1)`, impl.EndError, "", "a", 3},
			{"(" + name + ` 'c' (primError "b"))`, impl.EndError, "", "b", 4},
			{"(" + name + ` (\x -> x) (primError "b"))`, impl.EndError, "", "b", 4},
			{"(let x = x in (" + name + ` 'c' x))`, impl.EndLoop, "", "", 5},
			{"(let x = x in (" + name + ` x (primError "b")))`, impl.EndLoop, "", "", 4},
			{"(" + name + ` (1 1) (primError "b"))`, impl.EndStuck, "", "", 3},
			{"(" + name + ` 'c' (primDiv 1 0))`, impl.EndError, "", "division by zero", 5},
		}...)
	}
	for _, name := range strings.Fields("primOrd primChr primShow primError") {
		rows = append(rows, []meant{
			{"(" + name + ` (primError "a"))`, impl.EndError, "", "a", 3},
			{"(let x = x in (" + name + ` x))`, impl.EndLoop, "", "", 4},
			{"(" + name + ` (1 1))`, impl.EndStuck, "", "", 3},
		}...)
	}
	checkMeant(t, rows)
}

func TestComparisons(t *testing.T) {
	t.Parallel()
	checkMeant(t, []meant{
		{`(case (primEq 3 3) of { True -> "t"; False -> "f" })`, impl.EndDone, "t", "", 5},
		{`(case (primEq 3 4) of { True -> "t"; False -> "f" })`, impl.EndDone, "f", "", 5},
		{`(case (primLess 3 4) of { True -> "t"; False -> "f" })`, impl.EndDone, "t", "", 5},
		{`(case (primLess 3 3) of { True -> "t"; False -> "f" })`, impl.EndDone, "f", "", 5},
		{`(case (primLess 4 3) of { True -> "t"; False -> "f" })`, impl.EndDone, "f", "", 5},
		{`(case (primLess -4 -3) of { True -> "t"; False -> "f" })`, impl.EndDone, "t", "", 5},
		{`(case (primLess -18446744073709551616 0) of { True -> "t"; False -> "f" })`, impl.EndDone, "t", "", 5},
		{`(case (primEq 18446744073709551616 18446744073709551616) of { True -> "t"; False -> "f" })`, impl.EndDone, "t", "", 5},
		// They have no fields.
		{`(case (primEq 1 1) of { True x -> "t"; _ -> "d" })`, impl.EndDone, "d", "", 5},
		{`(primLess 1 1)`, impl.EndStuck, "", "", 3},
	})
}

func TestCharsAndNumbers(t *testing.T) {
	t.Parallel()
	checkMeant(t, []meant{
		{`(primChr -1)`, impl.EndError, "", "no char", 2},
		{`(primChr 256)`, impl.EndError, "", "no char", 2},
		{`(primChr 18446744073709551617)`, impl.EndError, "", "no char", 2},
		{`(primChr -18446744073709551615)`, impl.EndError, "", "no char", 2},
		{`(primChr 4294967361)`, impl.EndError, "", "no char", 2},
		{`(: (primChr 0) [])`, impl.EndDone, "\x00", "", 3},
		{`(: (primChr 255) [])`, impl.EndDone, "\xff", "", 3},
		{`(: (primChr 10) (: (primChr 256) []))`, impl.EndError, "\n", "no char", 5},
		{`(primShow (primOrd 'a'))`, impl.EndDone, "97", "", 3},
		{`(primShow (primOrd '\n'))`, impl.EndDone, "10", "", 3},
		{`(primShow (primOrd (primChr 0)))`, impl.EndDone, "0", "", 4},
		{`(primShow (primOrd (primChr 255)))`, impl.EndDone, "255", "", 4},
		{`(primChr 65)`, impl.EndStuck, "", "", 2},
		{`(primOrd 'a')`, impl.EndStuck, "", "", 2},
		{`(primShow 0)`, impl.EndDone, "0", "", 2},
		{`(primShow -1)`, impl.EndDone, "-1", "", 2},
		{`(primShow 9223372036854775808)`, impl.EndDone, "9223372036854775808", "", 2},
		{`(primShow -340282366920938463463374607431768211456)`, impl.EndDone, "-340282366920938463463374607431768211456", "", 2},
		// The text of a number is a list at once.
		{`(case (primShow 123) of { : a r -> (case r of { : b s -> s }) })`, impl.EndDone, "3", "", 6},
		{`(case (primShow 7) of { : a r -> (case r of { [] -> (: a "!") }) })`, impl.EndDone, "7!", "", 7},
	})
	for code := range int64(256) {
		c := coreCon(":", corePrim("primChr", corePrim("primOrd", corePrim("primChr", coreInt(code)))), coreCon("[]"))
		want := impl.Outcome{Out: string([]byte{byte(code)}), Steps: 5}
		if got := impl.Meaning(c, 1, "", 9); got != want {
			t.Errorf("%d tells %v", code, got)
		}
	}
}

// arithmeticOf has the outcome of a prim of two numbers, which is shown.
func arithmeticOf(name string, a, b *big.Int) impl.Outcome {
	o := impl.Outcome{End: impl.EndError, Steps: 4}
	value := new(big.Int)
	switch name {
	case "primAdd":
		value.Add(a, b)
	case "primSub":
		value.Sub(a, b)
	case "primMul":
		value.Mul(a, b)
	default:
		if b.Sign() == 0 {
			o.Error = "division by zero"
			return o
		}
		value = dividedSlowly(name, a, b)
	}
	if !fits(value) {
		o.Error = "too large"
		return o
	}
	return impl.Outcome{Out: value.String(), Steps: 4}
}

func TestArithmetic(t *testing.T) {
	t.Parallel()
	most := power(40*32, -1)
	numbers := []*big.Int{big.NewInt(0), big.NewInt(1), big.NewInt(-1), big.NewInt(7), big.NewInt(-7), big.NewInt(2), big.NewInt(-2), power(32, 0), power(63, 0), power(64, -1), new(big.Int).Neg(power(64, 5)), power(640, 0), power(639, 0), new(big.Int).Neg(power(640, -1)), most, new(big.Int).Neg(most)}
	ends := map[string]int{}
	for _, a := range numbers {
		for _, b := range numbers {
			for _, name := range strings.Fields("primAdd primSub primMul primDiv primMod") {
				c := corePrim("primShow", corePrim(name, impl.Core{Kind: impl.CInt, Big: bigFrom(a)}, impl.Core{Kind: impl.CInt, Big: bigFrom(b)}))
				got, want := impl.Meaning(c, 1, "", 100), arithmeticOf(name, a, b)
				if got != want {
					t.Errorf("%s %v %v tells %v, not %v", name, a, b, got, want)
				}
				ends[want.Error]++
			}
		}
	}
	if len(ends) != 3 || ends["too large"] < 20 || ends["division by zero"] != 2*len(numbers) {
		t.Errorf("there are %v", ends)
	}
}

func TestQuotientsRoundDown(t *testing.T) {
	t.Parallel()
	checkMeant(t, []meant{
		{`(primShow (primDiv 7 2))`, impl.EndDone, "3", "", 4},
		{`(primShow (primMod 7 2))`, impl.EndDone, "1", "", 4},
		{`(primShow (primDiv -7 2))`, impl.EndDone, "-4", "", 4},
		{`(primShow (primMod -7 2))`, impl.EndDone, "1", "", 4},
		{`(primShow (primDiv 7 -2))`, impl.EndDone, "-4", "", 4},
		{`(primShow (primMod 7 -2))`, impl.EndDone, "-1", "", 4},
		{`(primShow (primDiv -7 -2))`, impl.EndDone, "3", "", 4},
		{`(primShow (primMod -7 -2))`, impl.EndDone, "-1", "", 4},
		{`(primShow (primDiv -6 2))`, impl.EndDone, "-3", "", 4},
		{`(primShow (primMod -6 2))`, impl.EndDone, "0", "", 4},
		{`(primShow (primDiv 0 -5))`, impl.EndDone, "0", "", 4},
		{`(primDiv 0 0)`, impl.EndError, "", "division by zero", 3},
		{`(primMod 5 0)`, impl.EndError, "", "division by zero", 3},
		{`(primShow (primSub 2 3))`, impl.EndDone, "-1", "", 4},
		{`(primShow (primMul -4 6))`, impl.EndDone, "-24", "", 4},
	})
}

func TestSeqMeans(t *testing.T) {
	t.Parallel()
	rows := []meant{
		{`(primSeq (primError "e") "a")`, impl.EndError, "", "e", 3},
		{`(primSeq (primChr 256) "a")`, impl.EndError, "", "no char", 3},
		{`(let x = x in (primSeq x "a"))`, impl.EndLoop, "", "", 4},
		{`(primSeq (1 1) "a")`, impl.EndStuck, "", "", 3},
		{`(primSeq 1 "a")`, impl.EndDone, "a", "", 3},
		{`(primSeq 'c' "a")`, impl.EndDone, "a", "", 3},
		{`(primSeq (\x -> (primError "e")) "a")`, impl.EndDone, "a", "", 3},
		{`(primSeq ((\x y -> x) (primError "e")) "a")`, impl.EndDone, "a", "", 4},
		// As far as a constructor, a field no further.
		{`(primSeq (C (primError "e")) "a")`, impl.EndDone, "a", "", 3},
		{`(primSeq "b" "a")`, impl.EndDone, "a", "", 3},
		// The second is what it comes to, whatever that is.
		{`((primSeq 1 (\x -> x)) "a")`, impl.EndDone, "a", "", 6},
		{`(primSeq 1 2)`, impl.EndStuck, "", "", 3},
		{`(primSeq 1 (primError "e"))`, impl.EndError, "", "e", 4},
		{`(primSeq (primSeq 1 2) (primSeq 3 "a"))`, impl.EndDone, "a", "", 7},
		// What was worked out ahead is not worked out again.
		{`(let x = (primAdd 1 2) in (primSeq x (primShow x)))`, impl.EndDone, "3", "", 8},
	}
	checkMeant(t, rows)
	if !slices.ContainsFunc(rows, func(row meant) bool { return row.end == impl.EndLoop }) {
		t.Error("no loop")
	}
}
