package tests

import (
	"strconv"
	"strings"
	"testing"

	"loop.example/g00017/impl"
)

func TestWhatIsNoListOfChars(t *testing.T) {
	t.Parallel()
	checkMeant(t, []meant{
		{`1`, impl.EndStuck, "", "", 1},
		{`'a'`, impl.EndStuck, "", "", 1},
		{`A`, impl.EndStuck, "", "", 1},
		{`(\x -> x)`, impl.EndStuck, "", "", 1},
		{`((\x y -> x) 1)`, impl.EndStuck, "", "", 2},
		{`(P 'a' [])`, impl.EndStuck, "", "", 1},
		// A list with no char in it.
		{`(: 1 [])`, impl.EndStuck, "", "", 1},
		{`(: [] [])`, impl.EndStuck, "", "", 1},
		{`(: "a" [])`, impl.EndStuck, "", "", 2},
		{`(: (\x -> x) [])`, impl.EndStuck, "", "", 1},
		{`(: 'a' (: 'b' (: 1 (primError "e"))))`, impl.EndStuck, "ab", "", 1},
		{`(: 'a' (: (primAdd 60 5) []))`, impl.EndStuck, "a", "", 4},
		// A list with no list behind its char.
		{`(: 'a' 1)`, impl.EndStuck, "a", "", 1},
		{`(: 'a' 'b')`, impl.EndStuck, "a", "", 1},
		{`(: 'a' (: 'b' (primAdd 1 2)))`, impl.EndStuck, "ab", "", 4},
		{`(: 'a' (\x -> x))`, impl.EndStuck, "a", "", 1},
		// Constructors of these names with another number of fields are none of a list.
		{`(:)`, impl.EndStuck, "", "", 1},
		{`(: 'a')`, impl.EndStuck, "", "", 1},
		{`(: 'a' [] [])`, impl.EndStuck, "", "", 1},
		{`([] 'a')`, impl.EndStuck, "", "", 1},
		{`(: 'a' ([] 'b'))`, impl.EndStuck, "a", "", 1},
	})
}

func TestWhatIsToldAheadOfTheEnd(t *testing.T) {
	t.Parallel()
	checkMeant(t, []meant{
		{`(: 'a' (: 'b' (primError "e")))`, impl.EndError, "ab", "e", 3},
		{`(: 'a' (: (primError "e") []))`, impl.EndError, "a", "e", 3},
		{`(: 'a' (primShow (primDiv 1 0)))`, impl.EndError, "a", "division by zero", 5},
		{`(: (primError "first") (primError "second"))`, impl.EndError, "", "first", 3},
		{`(let x = x in (: 'a' (: 'b' x)))`, impl.EndLoop, "ab", "", 3},
		{`(let x = x in (: 'a' (: x [])))`, impl.EndLoop, "a", "", 3},
		{`(let l = (: 'a' (case l of { : h r -> r })) in l)`, impl.EndLoop, "a", "", 5},
		{`(: 'a' (1 1))`, impl.EndStuck, "a", "", 3},
		{`(: 'a' (: (case A of { B -> 'b' }) []))`, impl.EndStuck, "a", "", 3},
	})
	deep := readCore(`(let f = (\x -> (primAdd 1 (f x))) in (: 'a' (: 'b' (primShow (f 1)))))`)
	if got := checkRuns17(t, deep, 1, "", impl.MaxSteps); got.End != impl.EndDeep || got.Out != "ab" || got.Error != "" {
		t.Errorf("it tells %v", got)
	}
}

// The first char takes six steps, each further one eight.
func TestWhatFewerStepsTell(t *testing.T) {
	t.Parallel()
	c := readCore(`(let f = (\n -> (: (primChr n) (f (primAdd n 1)))) in (f 65))`)
	for steps := int64(1); steps < 60; steps++ {
		want := impl.Outcome{End: impl.EndSteps, Out: "ABCDEFGHIJ"[:(steps+2)/8], Steps: steps}
		if got := checkRuns17(t, c, 1, "", steps); got != want {
			t.Errorf("%d steps tell %v, not %v", steps, got, want)
		}
	}
}

// Exactly as many chars as may be told, and one more, from all that makes them.
func TestMostOutput(t *testing.T) {
	t.Parallel()
	most := strings.Repeat("a", impl.MaxOut)
	for _, row := range []struct {
		count int64
		end   string
		want  int64
		error string
	}{
		{impl.MaxOut - 1, `[]`, impl.EndDone, ""},
		{impl.MaxOut, `[]`, impl.EndDone, ""},
		{impl.MaxOut, `"b"`, impl.EndOut, ""},
		{impl.MaxOut + 1, `[]`, impl.EndOut, ""},
		{impl.MaxOut + 2, `[]`, impl.EndOut, ""},
		// What is one too many is a char only once it is worked out.
		{impl.MaxOut, `(primError "e")`, impl.EndError, "e"},
		{impl.MaxOut, `(: (primError "e") [])`, impl.EndError, "e"},
		{impl.MaxOut, `(: 'b' (primError "e"))`, impl.EndOut, ""},
		{impl.MaxOut, `(let x = x in x)`, impl.EndLoop, ""},
		{impl.MaxOut, `(let x = x in (: x []))`, impl.EndLoop, ""},
		{impl.MaxOut, `1`, impl.EndStuck, ""},
		{impl.MaxOut, `(: 1 [])`, impl.EndStuck, ""},
		{impl.MaxOut, `(: 'b' 1)`, impl.EndOut, ""},
	} {
		c := readCore(repeatChars("'a'", row.count, row.end))
		got := checkRuns17(t, c, 1, "", impl.MaxSteps)
		if got.End != row.want || got.Error != row.error || got.Out != most[:min(row.count, impl.MaxOut)] {
			t.Errorf("%d chars and %s: end %d, %d bytes, error %q", row.count, row.end, got.End, len(got.Out), got.Error)
		}
	}
	for _, count := range []int{impl.MaxOut - 1, impl.MaxOut, impl.MaxOut + 1, impl.MaxSource} {
		text := strings.Repeat("xyz", impl.MaxSource)[:count]
		want := impl.Outcome{Out: text[:min(count, impl.MaxOut)], Steps: 1}
		if count > impl.MaxOut {
			want.End = impl.EndOut
		}
		if got := impl.Meaning(coreString(text), 1, "", 1); got != want {
			t.Errorf("a text of %d: end %d, %d bytes", count, got.End, len(got.Out))
		}
	}
	// Lists that come back to themselves take no steps as they are told.
	for text, steps := range map[string]int64{`(let x = (: 'a' x) in x)`: 2, `(let x = (: (primChr 97) x) in x)`: 4, `(let x = (: 'a' y); y = (: 'a' (: 'a' x)) in x)`: 2} {
		if got, want := checkRuns17(t, readCore(text), 1, "", 100), (impl.Outcome{End: impl.EndOut, Out: most, Steps: steps}); got != want {
			t.Errorf("%s: end %d, %d bytes, %d steps", text, got.End, len(got.Out), got.Steps)
		}
	}
}

func TestModes(t *testing.T) {
	t.Parallel()
	all := ""
	for b := range 256 {
		all += string([]byte{byte(255 - b)})
	}
	inputs := []string{"", "a", "hello\n", all, strings.Repeat("in ", impl.MaxOut/3), strings.Repeat("x", impl.MaxSource)}
	told := func(input string) impl.Outcome {
		if len(input) > impl.MaxOut {
			return impl.Outcome{End: impl.EndOut, Out: input[:impl.MaxOut]}
		}
		return impl.Outcome{Out: input}
	}
	check := func(text string, mode int64, input string, want impl.Outcome, steps int64) {
		t.Helper()
		want.Steps = steps
		if got := checkRuns17(t, readCore(text), mode, input, 100); got != want {
			t.Errorf("%s, mode %d, input of %d: end %d, %d bytes, error %q, %d steps", text, mode, len(input), got.End, len(got.Out), got.Error, got.Steps)
		}
	}
	for _, input := range inputs {
		// The input is not looked at.
		check(`"a"`, 1, input, impl.Outcome{Out: "a"}, 1)
		check(`(\x -> x)`, 1, input, impl.Outcome{End: impl.EndStuck}, 1)
		// The term is applied to it: it is worked out, and takes a list that is what it is at once.
		check(`(\x -> x)`, 2, input, told(input), 2)
		check(`(let f = (\x -> x) in f)`, 2, input, told(input), 3)
		check(`((\x y -> y) 1)`, 2, input, told(input), 3)
		check(`((\x -> (\y -> y)) 1)`, 2, input, told(input), 4)
		check(`(\x -> (primSeq x (primSeq x x)))`, 2, input, told(input), 6)
		check(`(\x -> "a")`, 2, input, impl.Outcome{Out: "a"}, 2)
		check(`(\x -> (primError x))`, 2, input, impl.Outcome{End: impl.EndError, Error: told(input).Out}, 3)
		check(`(\x y -> x)`, 2, input, impl.Outcome{End: impl.EndStuck}, 1)
		check(`(\x -> (\y -> x))`, 2, input, impl.Outcome{End: impl.EndStuck}, 2)
		check(`"a"`, 2, input, impl.Outcome{End: impl.EndStuck}, 1)
		check(`7`, 2, input, impl.Outcome{End: impl.EndStuck}, 1)
		check(`(primError "e")`, 2, input, impl.Outcome{End: impl.EndError, Error: "e"}, 2)
		check(`(let f = f in f)`, 2, input, impl.Outcome{End: impl.EndLoop}, 3)
	}
	check(`(\x -> (case x of { [] -> "none"; : h r -> (: h []) }))`, 2, "", impl.Outcome{Out: "none"}, 4)
	check(`(\x -> (case x of { [] -> "none"; : h r -> (: h []) }))`, 2, "ab", impl.Outcome{Out: "a"}, 4)
	// What is suspended as the filter is worked out first, and is shared.
	length := `(let len = (\l n -> (primSeq n (case l of { [] -> n; : h r -> (len r (primAdd n 1)) }))) in (\x -> (primShow (len x 0))))`
	for _, count := range []int{0, 1, 10, 1000, impl.MaxSource} {
		got := impl.Meaning(readCore(length), 2, strings.Repeat("z", count), impl.MaxSteps)
		if want := (impl.Outcome{Out: strconv.Itoa(count), Steps: 9*int64(count) + 10}); got != want {
			t.Errorf("the length of %d chars tells %v", count, got)
		}
	}
}
