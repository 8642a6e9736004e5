package tests

import (
	"runtime/debug"
	"strconv"
	"testing"

	"loop.example/g00017/impl"
)

// A deepForm waits once more at each level for what is one level further in.
type deepForm struct {
	name  string
	again string // what stands at each level, with f for the function of levels, and (primSub n 1) for the next one
	last  string // what stands at the last one
	use   string // what is made of (f N) to be told
	end   int64
	out   string
	error string
	extra int // what waits beside the levels, at most
}

// At the last level a case waits for primEq, this for n, n for primSub, and primSub for what stands ahead of it.
const extraAtLast = 4

const oneFurther = `(f (primSub n 1))`

func deepForms() []deepForm {
	return []deepForm{
		{"a case", `(case ` + oneFurther + ` of { _ -> "a" })`, `"b"`, `$`, impl.EndDone, "a", "", extraAtLast},
		{"a case with a name", `(case ` + oneFurther + ` of x { : h r -> x })`, `"b"`, `$`, impl.EndDone, "b", "", extraAtLast},
		{"an application for its function", `(` + oneFurther + ` (\x -> x))`, `(\x -> x)`, `($ "b")`, impl.EndDone, "b", "", 1 + extraAtLast},
		{"the first kid", `(primAdd ` + oneFurther + ` 1)`, `0`, `(case $ of { _ -> "a" })`, impl.EndDone, "a", "", 1 + extraAtLast},
		{"the second kid", `(primSub 1 ` + oneFurther + `)`, `0`, `(case $ of { _ -> "a" })`, impl.EndDone, "a", "", 1 + extraAtLast},
		{"the kid of one", `(primOrd (primChr ` + oneFurther + `))`, `65`, `(case $ of { _ -> "a" })`, impl.EndDone, "a", "", 1 + extraAtLast},
		{"what is first in turn", `(primSeq ` + oneFurther + ` "a")`, `"b"`, `$`, impl.EndDone, "a", "", extraAtLast},
		{"the text of an error", `(primError ` + oneFurther + `)`, `"b"`, `$`, impl.EndError, "", "b", extraAtLast},
		{"something suspended", `(let x = ` + oneFurther + ` in x)`, `"b"`, `$`, impl.EndDone, "b", "", extraAtLast},
		{"a suspended argument", `(i ` + oneFurther + `)`, `"b"`, `$`, impl.EndDone, "b", "", extraAtLast},
		{"a suspended field", `(case (P ` + oneFurther + `) of { P x -> x })`, `"b"`, `$`, impl.EndDone, "b", "", extraAtLast},
		{"arguments that are left", `(f (primSub n 1) (\x -> x))`, `(\x -> x)`, `($ "b")`, impl.EndDone, "b", "", 1 + extraAtLast},
		// The text that a primError reads is worked out above what waits; it waits for none of it.
		{"an error within a text", `(primSeq ` + oneFurther + ` "a")`, `(primError (: (primChr (primAdd (primAdd (primAdd 90 5) 1) 1)) []))`, `$`, impl.EndError, "", "a", 5},
	}
}

// term has a run of so many levels.
func (d deepForm) term(levels int) impl.Core {
	use := ""
	for _, letter := range d.use {
		if letter == '$' {
			use += "(f " + strconv.Itoa(levels) + ")"
		} else {
			use += string(letter)
		}
	}
	return readCore(`(let i = (\x -> x); f = (\n -> (case (primEq n 0) of { True -> ` + d.last + `; False -> ` + d.again + ` })) in ` + use + `)`)
}

// perLevel has how much waits at each level.
func (d deepForm) perLevel() int {
	if d.name == "the kid of one" {
		return 2
	}
	return 1
}

// Exactly as much waits as may, and then one more.
func TestMostWaiting(t *testing.T) {
	t.Parallel()
	for _, d := range deepForms() {
		levels := (impl.MaxPending - d.extra) / d.perLevel()
		want := impl.Outcome{End: d.end, Out: d.out, Error: d.error}
		for _, fewer := range []int{0, 1} {
			c := d.term(levels - fewer)
			got, peak := meaningSlowly(c, 1, "", impl.MaxSteps)
			if peak != (levels-fewer)*d.perLevel()+d.extra {
				t.Errorf("%s: %d wait at once", d.name, peak)
			}
			want.Steps = got.Steps
			if told := impl.Meaning(c, 1, "", impl.MaxSteps); told != want || got != want {
				t.Errorf("%s, with %d levels, tells %v, not %v", d.name, levels-fewer, told, want)
			}
		}
		for _, more := range []int{1, 2} {
			c := d.term(levels + more)
			got, _ := meaningSlowly(c, 1, "", impl.MaxSteps)
			if told := impl.Meaning(c, 1, "", impl.MaxSteps); told != got || got.End != impl.EndDeep || got.Out != "" || got.Error != "" {
				t.Errorf("%s, with %d levels, tells %v, not %v", d.name, levels+more, told, got)
			}
		}
	}
}

// The application to the input waits too, until the function is there.
func TestMostWaitingInModes(t *testing.T) {
	t.Parallel()
	d := deepForms()[0]
	const around = 2 // the application, and the primSeq
	for more := range 3 {
		levels := impl.MaxPending - d.extra - around - 1 + more
		c := corePrim("primSeq", d.term(levels), readCore(`(\x -> x)`))
		got, peak := meaningSlowly(c, 2, "in", impl.MaxSteps)
		if told := impl.Meaning(c, 2, "in", impl.MaxSteps); told != got || more < 2 && (got.Out != "in" || peak != levels+d.extra+around) || more == 2 && got.End != impl.EndDeep {
			t.Errorf("with %d levels it tells %v, not %v", levels, told, got)
		}
	}
}

// However much waits, calls do not go into each other.
func TestDeepRunsInASmallStack(t *testing.T) {
	defer debug.SetMaxStack(debug.SetMaxStack(smallStack))
	for _, d := range deepForms() {
		levels := (impl.MaxPending - d.extra) / d.perLevel()
		if got := impl.Meaning(d.term(levels), 1, "", impl.MaxSteps); got.End != d.end || got.Out != d.out || got.Error != d.error {
			t.Errorf("%s tells %v", d.name, got)
		}
	}
}

// Calls at the end of a body, of an alternative or of a let wait for nothing.
func TestLoopsThatWaitForNothing(t *testing.T) {
	t.Parallel()
	for text, each := range map[string]int64{
		`(let f = (\x -> (f x)) in (f 1))`:                                               2,
		`(let f = (\x -> (case x of { _ -> (f x) })) in (f 1))`:                          4,
		`(let f = (\x -> (primSeq x (f x))) in (f 1))`:                                   4,
		`(let f = (\x -> (let y = x in (f y))) in (f 1))`:                                3,
		`(let f = (\x -> (g x)); g = (\x -> (f x)) in (f 1))`:                            2,
		`(let f = (\x -> (\y -> (f y x))) in (f 1 2))`:                                   3,
		`(let f = (\x y -> ((f y) x)) in (f 1 2))`:                                       3,
		`(let f = (\g x -> (g g x)) in (f f 1))`:                                         2,
		`(let f = (\n -> (primSeq n (f (primAdd n 1)))) in (f 1))`:                       7,
		`(let f = (\n -> (case n of m { _ -> (f (primAdd m 1)) })) in (f 1))`:            7,
		`(let f = (\p -> (case p of { P a b -> (f (P b a)) })) in (f (P 1 2)))`:          4,
		`(let f = (\l -> (case l of { : h r -> (f r) })) in (let x = (: 1 x) in (f x)))`: 4,
	} {
		c := readCore(text)
		const steps = 100 + 3*impl.MaxPending*7
		if got, want := impl.Meaning(c, 1, "", steps), (impl.Outcome{End: impl.EndSteps, Steps: steps}); got != want {
			t.Errorf("%s tells %v", text, got)
		}
		if _, peak := meaningSlowly(c, 1, "", 100*each); peak > 5 {
			t.Errorf("%s lets %d wait", text, peak)
		}
	}
}
