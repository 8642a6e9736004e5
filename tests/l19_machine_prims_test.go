package tests

import (
	"fmt"
	"math/big"
	"strings"
	"testing"

	"loop.example/g00017/impl"
)

// primKinds has a value of each kind as a let makes it, by the kind's name; "text" is suspended, and takes a step.
func primKinds() map[string]string {
	return map[string]string{"number": "12", "char": "'c'", "con": "(con A)", "function": "(make 1)", "text": "(make 2)"}
}

// primRun has the forms of a prim of values of some kinds, behind which a code is worked out.
func primRun(name string, kinds []string, use string) string {
	made, refs := "", ""
	for i, kind := range kinds {
		made += " " + primKinds()[kind]
		refs += fmt.Sprintf(" s%d", i)
	}
	return fmt.Sprintf("0 0 0 3 (let s0%s (case (prim %s%s) s2 _ %s))\n1 0 1 1 s0\n2 0 0 0 \"t\"", made, name, refs, use)
}

// Each prim at each kind of value, and each pair of kinds: those that are not of its kind are stuck once all are worked out.
func TestRunsOfPrimsAtAllKinds(t *testing.T) {
	t.Parallel()
	kinds := []string{"number", "char", "con", "function", "text"}
	wants := map[string]string{"primOrd": "char", "primChr": "number", "primShow": "number"}
	var rows []ran
	for name, want := range wants {
		for _, kind := range kinds {
			row := ran{primRun(name, []string{kind}, `"ok"`), impl.EndStuck, "", "", 3, 1, 0}
			if kind == "text" {
				row.steps, row.made, row.updates = 4, 4, 1
			}
			if kind == want {
				row.end, row.out, row.steps, row.made = impl.EndDone, "ok", row.steps+1, row.made+6
			}
			if kind == want && name == "primShow" {
				row.made += 4
			}
			rows = append(rows, row)
		}
	}
	for _, name := range strings.Fields("primAdd primSub primMul primDiv primMod primEq primLess primSeq") {
		for _, first := range kinds {
			for _, second := range kinds {
				row := ran{primRun(name, []string{first, second}, `"ok"`), impl.EndStuck, "", "", 3, 2, 0}
				for _, kind := range []string{first, second} {
					if kind == "text" {
						row.steps, row.made, row.updates = row.steps+1, row.made+3, row.updates+1
					}
				}
				if first == "number" && second == "number" {
					row.end, row.out, row.steps, row.made = impl.EndDone, "ok", row.steps+1, row.made+6
				}
				if name == "primSeq" && (first != "number" || second != "number") {
					row.end, row.out, row.steps, row.made = impl.EndDone, "ok", row.steps+1, row.made+5
				} else if name == "primSeq" {
					row.made--
				}
				rows = append(rows, row)
			}
		}
	}
	checkRan(t, rows)
}

func TestRunsOfPrims(t *testing.T) {
	t.Parallel()
	of := func(name string, values ...string) string {
		made, refs := "", ""
		for i, value := range values {
			made += " " + value
			refs += fmt.Sprintf(" s%d", i)
		}
		return fmt.Sprintf("0 0 0 3 (let s0%s (prim %s%s))", made, name, refs)
	}
	show := func(name string, values ...string) string {
		ahead, prim, _ := strings.Cut(of(name, values...), "(prim")
		return ahead + "(case (prim" + strings.TrimSuffix(prim, ")") + " s2 _ (prim primShow s2)))"
	}
	checkRan(t, []ran{
		{show("primAdd", "40", "2"), impl.EndDone, "42", "", 4, 8, 0},
		{show("primSub", "2", "40"), impl.EndDone, "-38", "", 4, 10, 0},
		{show("primMul", "-7", "6"), impl.EndDone, "-42", "", 4, 10, 0},
		{show("primDiv", "-7", "2"), impl.EndDone, "-4", "", 4, 8, 0},
		{show("primMod", "-7", "2"), impl.EndDone, "1", "", 4, 6, 0},
		{show("primOrd", "'a'"), impl.EndDone, "97", "", 4, 7, 0},
		{of("primShow", "0"), impl.EndDone, "0", "", 2, 4, 0},
		{of("primShow", "-12345678901234567890"), impl.EndDone, "-12345678901234567890", "", 2, 44, 0},
		// What errs.
		{show("primDiv", "1", "0"), impl.EndError, "", "division by zero", 3, 2, 0},
		{show("primMod", "1", "0"), impl.EndError, "", "division by zero", 3, 2, 0},
		{of("primChr", "-1"), impl.EndError, "", "no char", 2, 1, 0},
		{of("primChr", "256"), impl.EndError, "", "no char", 2, 1, 0},
		{of("primChr", "18446744073709551681"), impl.EndError, "", "no char", 2, 1, 0},
		// Truth values.
		{"0 0 0 2 (let s0 1 2 (case (prim primLess s0 s1) - { True s0 0 \"less\" } { False s0 0 \"more\" }))", impl.EndDone, "less", "", 4, 12, 0},
		{"0 0 0 2 (let s0 2 2 (case (prim primLess s0 s1) - { True s0 0 \"less\" } { False s0 0 \"more\" }))", impl.EndDone, "more", "", 4, 12, 0},
		{"0 0 0 2 (let s0 2 2 (case (prim primEq s0 s1) - { True s0 0 \"same\" } { False s0 0 \"other\" }))", impl.EndDone, "same", "", 4, 12, 0},
		{"0 0 0 2 (let s0 2 -2 (case (prim primEq s0 s1) - { True s0 0 \"same\" } { False s0 0 \"other\" }))", impl.EndDone, "other", "", 4, 14, 0},
		{"0 0 0 2 (let s0 2 -2 (prim primEq s0 s1))", impl.EndStuck, "", "", 2, 3, 0},
		// Chars.
		{"0 0 0 3 (let s0 97 (con []) (case (prim primChr s0) s2 _ (con : s2 s1)))", impl.EndDone, "a", "", 4, 4, 0},
		{"0 0 0 3 (let s0 0 (con []) (case (prim primChr s0) s2 _ (con : s2 s1)))", impl.EndDone, "\x00", "", 4, 4, 0},
		{"0 0 0 3 (let s0 255 (con []) (case (prim primChr s0) s2 _ (con : s2 s1)))", impl.EndDone, "\xff", "", 4, 4, 0},
		// Slots are worked out in order, each once.
		{"0 0 0 2 (let s0 (make 1) (make 2 s1) (prim primAdd s0 s1))\n1 0 0 1 (let s0 (con []) (prim primError s0))\n2 1 0 1 s0", impl.EndError, "", "", 4, 3, 0},
		{"0 0 0 2 (let s0 (make 2 s0) (make 1) (prim primAdd s0 s1))\n1 0 0 1 (let s0 (con []) (prim primError s0))\n2 1 0 1 s0", impl.EndLoop, "", "", 3, 2, 0},
		{"0 0 0 2 (let s0 'a' (make 1 s1) (prim primAdd s0 s1))\n1 1 0 1 s0", impl.EndLoop, "", "", 3, 2, 0},
		{"0 0 0 1 (let s0 (make 1) (case (prim primMul s0 s0) s0 _ (prim primShow s0)))\n1 0 0 0 9", impl.EndDone, "81", "", 5, 8, 1},
	})
}

// Arithmetic of the machine is that of chapter 1.
func TestRunsOfArithmetic(t *testing.T) {
	t.Parallel()
	most := power(40*32, -1)
	numbers := []*big.Int{big.NewInt(0), big.NewInt(1), big.NewInt(-1), big.NewInt(7), big.NewInt(-2), power(32, 0), power(63, 0), new(big.Int).Neg(power(64, 5)), power(640, 0), most, new(big.Int).Neg(most)}
	ends := map[string]int{}
	for _, a := range numbers {
		for _, b := range numbers {
			for _, name := range strings.Fields("primAdd primSub primMul primDiv primMod") {
				run := slowRun{readForms(fmt.Sprintf("0 0 0 3 (let s0 %v %v (case (prim %s s0 s1) s2 _ (prim primShow s2)))", a, b, name)), 1, "", 9, 5000}
				want := impl.RunResult{Outcome: arithmeticOf(name, a, b), Made: 2, Peak: 2}
				if want.Outcome.End == impl.EndError {
					want.Outcome.Steps = 3
				} else {
					want.Made = 4 + 2*int64(len(want.Outcome.Out))
					want.Peak = want.Made
				}
				if got := run.check(t); got != want {
					t.Errorf("%s %v %v answers %s, not %s", name, a, b, shortRun(got), shortRun(want))
				}
				ends[want.Outcome.Error]++
			}
		}
	}
	if len(ends) != 3 || ends["too large"] < 20 || ends["division by zero"] != 2*len(numbers) {
		t.Errorf("there are %v", ends)
	}
}
