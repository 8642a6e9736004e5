package tests

import (
	"strings"
	"testing"

	"loop.example/g00017/impl"
)

func TestErrorTexts(t *testing.T) {
	t.Parallel()
	checkMeant(t, []meant{
		{`(primError "stop")`, impl.EndError, "", "stop", 2},
		{`(primError [])`, impl.EndError, "", "", 2},
		{`(primError (: 'a' (: 'b' [])))`, impl.EndError, "", "ab", 2},
		{`(primError (primShow (primAdd 1 2)))`, impl.EndError, "", "3", 5},
		{`(: 'x' (: 'y' (primError "stop")))`, impl.EndError, "xy", "stop", 3},
		{`(: 'x' (: (primError "stop") "z"))`, impl.EndError, "x", "stop", 3},
		// The text is worked out as the output is, from the left, each cell and char once.
		{`(primError (: (primChr 97) (: 'b' (primShow 3))))`, impl.EndError, "", "ab3", 6},
		{`(let x = (primChr 97) in (primError (: x (: x (: x [])))))`, impl.EndError, "", "aaa", 5},
		{`(: 'x' (let l = (: 'a' (: (primChr 98) [])) in (primError l)))`, impl.EndError, "x", "ab", 6},
		// It errs, loops or is stuck while it is worked out: that is told, and none of its text.
		{`(primError (primError "inner"))`, impl.EndError, "", "inner", 3},
		{`(primError (: 'a' (primError "inner")))`, impl.EndError, "", "inner", 4},
		{`(primError (: 'a' (: (primError "inner") (primError "never"))))`, impl.EndError, "", "inner", 4},
		{`(: 'x' (primError (: 'a' (: (primError (: 'b' (primError "most inner"))) []))))`, impl.EndError, "x", "most inner", 7},
		{`(primError (: 'a' (: (primChr 256) [])))`, impl.EndError, "", "no char", 4},
		{`(primError (: 'a' (primShow (primDiv 1 0))))`, impl.EndError, "", "division by zero", 6},
		{`(let x = x in (primError x))`, impl.EndLoop, "", "", 4},
		{`(let x = x in (: 'x' (primError (: 'a' x))))`, impl.EndLoop, "x", "", 5},
		{`(let x = x in (: 'x' (primError (: x []))))`, impl.EndLoop, "x", "", 5},
		{`(let x = (primError x) in x)`, impl.EndLoop, "", "", 4},
		{`(let x = (primError (: 'a' x)) in (: 'x' x))`, impl.EndLoop, "x", "", 4},
		// What is no list of chars.
		{`(primError 1)`, impl.EndStuck, "", "", 2},
		{`(primError 'a')`, impl.EndStuck, "", "", 2},
		{`(primError A)`, impl.EndStuck, "", "", 2},
		{`(primError (\x -> x))`, impl.EndStuck, "", "", 2},
		{`(: 'x' (primError (: 1 [])))`, impl.EndStuck, "x", "", 3},
		{`(: 'x' (primError (: 'a' (: [] []))))`, impl.EndStuck, "x", "", 3},
		{`(primError (: 'a' 1))`, impl.EndStuck, "", "", 2},
		{`(primError (: 'a' (: 'b' A)))`, impl.EndStuck, "", "", 2},
		{`(primError (: 'a' (1 1)))`, impl.EndStuck, "", "", 4},
		// Nothing of it is worked out where it is not asked for.
		{`(let x = (primError (primError "e")) in "a")`, impl.EndDone, "a", "", 2},
	})
}

// repeatChars has a list of so many chars behind each other, ended by a term; it takes two steps ahead and five for each char.
func repeatChars(char string, count int64, end string) string {
	return `(let go = (\n -> (case n of m { _ -> (case (primLess 0 m) of { True -> (: ` + char + ` (go (primSub m 1))); False -> ` + end + ` }) })) in (go ` + coreWritten(coreInt(count)) + `))`
}

func TestLongErrorTexts(t *testing.T) {
	t.Parallel()
	most := strings.Repeat("a", impl.MaxOut)
	for _, one := range []struct {
		text string
		want impl.Outcome
	}{
		// A text that never ends takes as long as one more than may be told.
		{`(let x = (: 'a' x) in (primError x))`, impl.Outcome{End: impl.EndError, Error: most, Steps: 3}},
		{`(: 'x' (let x = (: 'a' x) in (primError x)))`, impl.Outcome{End: impl.EndError, Out: "x", Error: most, Steps: 4}},
		{`(let x = (: (primChr 97) x) in (primError x))`, impl.Outcome{End: impl.EndError, Error: most, Steps: 5}},
		{`(let f = (\x -> (: 'a' (f x))) in (primError (f 1)))`, impl.Outcome{End: impl.EndError, Error: most, Steps: 2 + 3*(impl.MaxOut+1)}},
	} {
		c := readCore(one.text)
		if got := checkRuns17(t, c, 1, "", impl.MaxSteps); got != one.want {
			t.Errorf("%s ends %d with %d bytes in %d steps, not %d in %d", one.text, got.End, len(got.Error), got.Steps, one.want.End, one.want.Steps)
		}
	}
	// Behind the last char that may be told the text is worked out as the output is.
	for _, row := range []struct {
		count int64
		end   string
		want  int64
		text  string
	}{
		{impl.MaxOut - 1, `[]`, impl.EndError, most[1:]},
		{impl.MaxOut, `[]`, impl.EndError, most},
		{impl.MaxOut, `"b"`, impl.EndError, most},
		{impl.MaxOut + 1, `[]`, impl.EndError, most},
		{impl.MaxOut, `(primError "inner")`, impl.EndError, "inner"},
		{impl.MaxOut, `(: (primError "inner") [])`, impl.EndError, "inner"},
		{impl.MaxOut, `(: 'b' (primError "inner"))`, impl.EndError, most},
		{impl.MaxOut, `(let x = x in x)`, impl.EndLoop, ""},
		{impl.MaxOut, `1`, impl.EndStuck, ""},
		{impl.MaxOut, `(: 1 [])`, impl.EndStuck, ""},
		{impl.MaxOut, `(: 'b' 1)`, impl.EndError, most},
	} {
		c := readCore(`(primError ` + repeatChars("'a'", row.count, row.end) + `)`)
		if got := checkRuns17(t, c, 1, "", impl.MaxSteps); got.End != row.want || got.Error != row.text || got.Out != "" {
			t.Errorf("%d chars and %s: ends %d with %d bytes", row.count, row.end, got.End, len(got.Error))
		}
	}
	// Texts as they stand in terms may be longer than what may be told.
	for _, count := range []int{impl.MaxOut - 1, impl.MaxOut, impl.MaxOut + 1, impl.MaxSource} {
		text := strings.Repeat("ab", impl.MaxSource)[:count]
		got := impl.Meaning(corePrim("primError", coreString(text)), 1, "", 100)
		if want := (impl.Outcome{End: impl.EndError, Error: text[:min(count, impl.MaxOut)], Steps: 2}); got != want {
			t.Errorf("%d bytes: ends %d with %d", count, got.End, len(got.Error))
		}
	}
}
