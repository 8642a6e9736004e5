package tests

import (
	"runtime/debug"
	"slices"
	"strconv"
	"strings"
	"testing"

	"loop.example/g00017/impl"
)

// loopOf calls f again and again, which is a function of x with a body.
func loopOf(body, first impl.Core) impl.Core {
	return coreLet("f", coreLam("x", body), coreApp(coreVar("f"), first))
}

// seqLoop works out a term, and then calls f again.
func seqLoop(worked, next, first impl.Core) impl.Core {
	return loopOf(corePrim("primSeq", worked, coreApp(coreVar("f"), next)), first)
}

// manyTerms has a head and other terms behind it.
func manyTerms(head impl.Core, rest []impl.Core) []impl.Core {
	return slices.Concat([]impl.Core{head}, rest)
}

// longLoops has terms that never end, with as much to do at each step as may be.
func longLoops() map[string]impl.Core {
	x, zero := coreVar("x"), coreInt(0)
	great := impl.Core{Kind: impl.CInt, Big: bigFrom(power(1280, -1))}
	half := impl.Core{Kind: impl.CInt, Big: bigFrom(power(640, -1))}
	texts := slices.Repeat([]impl.Core{coreString("t")}, 7)
	list := map[string]impl.Core{
		"no work":              readCore(`(let f = (\x -> (f x)) in (f 1))`),
		"a count":              readCore(`(let f = (\n -> (primSeq n (f (primAdd n 1)))) in (f 1))`),
		"a list":               readCore(`(let f = (\l n -> (case l of { : h r -> (f r (: n l)) })); x = (: 1 x) in (f x x))`),
		"a kept list":          seqLoop(x, coreCon(":", coreString("t"), x), coreCon("[]")),
		"few things, kept":     seqLoop(x, coreCon("C", manyTerms(x, texts)...), zero),
		"great products":       seqLoop(corePrim("primMul", x, x), x, half),
		"great quotients":      seqLoop(corePrim("primDiv", x, half), x, great),
		"great numbers shown":  seqLoop(corePrim("primShow", x), x, great),
		"a long text":          seqLoop(coreString(strings.Repeat("t", impl.MaxSource)), x, zero),
		"arguments one by one": oneByOne(),
		"names far out":        farOut(seqLoop(coreVar("far"), x, zero)),
		"arguments far out":    farOut(coreLet("f", coreLam("a b c d e g h i", coreApp(manyTerms(coreVar("f"), slices.Repeat([]impl.Core{coreVar("far")}, 8))...)), coreApp(manyTerms(coreVar("f"), slices.Repeat([]impl.Core{zero}, 8))...))),
	}
	addWideLoops(list)
	return list
}

// addWideLoops adds loops with very many kids.
func addWideLoops(list map[string]impl.Core) {
	const wide = 6000
	x, zero := coreVar("x"), coreInt(0)
	names := namesUpTo(wide)
	var variables []impl.Core
	var alts []impl.CoreAlt
	for _, name := range names {
		variables = append(variables, coreVar(name))
		alts = append(alts, impl.CoreAlt{Con: name, Body: x})
	}
	texts := slices.Repeat([]impl.Core{coreString("t")}, wide)
	let := func(next impl.Core) impl.Core {
		again := coreApp(coreVar("f"), next)
		return loopOf(impl.Core{Kind: impl.CLet, Names: names, Kids: append(slices.Clone(texts), again)}, zero)
	}
	call := func(body func(again impl.Core) impl.Core) impl.Core {
		again := coreApp(manyTerms(coreVar("f"), variables)...)
		return coreLet("f", impl.Core{Kind: impl.CLam, Names: names, Kids: []impl.Core{body(again)}}, coreApp(manyTerms(coreVar("f"), texts)...))
	}
	list["a wide let"] = let(coreVar(names[7]))
	list["a wide let, kept"] = let(coreLam("q", coreApp(coreVar(names[7]), x)))
	list["a wide value"] = seqLoop(coreCon("C", manyTerms(x, texts)...), x, zero)
	list["a wide value, kept"] = seqLoop(x, coreCon("C", manyTerms(x, texts)...), zero)
	list["many arguments"] = call(func(again impl.Core) impl.Core { return again })
	list["many arguments, one used"] = call(func(again impl.Core) impl.Core { return corePrim("primSeq", variables[9], again) })
	list["many alternatives"] = seqLoop(coreCase("", []impl.Core{coreCon(names[wide-1])}, alts...), x, zero)
}

// oneByOne lets a function take very many arguments, each by itself, and then calls it for good.
func oneByOne() impl.Core {
	const count = 9000
	names := namesUpTo(count)
	g := impl.Core{Kind: impl.CLam, Names: names, Kids: []impl.Core{coreVar(names[0])}}
	taking := readCore(`(\h n -> (primSeq h (primSeq n (case (primEq n 1) of { True -> h; False -> (t (h n) (primSub n 1)) }))))`)
	return coreLet("t g h", taking, g, coreApp(coreVar("t"), coreVar("g"), coreInt(count)), seqLoop(coreApp(coreVar("h"), coreVar("x")), coreVar("x"), coreInt(0)))
}

// farOut puts a term very many levels below a name that it asks for.
func farOut(c impl.Core) impl.Core {
	for i := range 900 {
		c = coreLet("q"+strconv.Itoa(i), coreInt(1), c)
	}
	return coreLet("far", coreInt(1), c)
}

// However much there is in a term, the most steps are soon taken.
func TestMostSteps(t *testing.T) {
	t.Parallel()
	for name, c := range longLoops() {
		for _, steps := range []int64{2500, impl.MaxSteps} {
			if got, want := impl.Meaning(c, 1, "", steps), (impl.Outcome{End: impl.EndSteps, Steps: steps}); got != want {
				t.Errorf("%s tells %v", name, got)
			}
		}
	}
}

// Many things given at once are worked out once, kept and told as few are.
func TestManyThingsGivenAtOnce(t *testing.T) {
	t.Parallel()
	for _, count := range []int{1, 2, 7, 8, 9, 10, 16, 17, 100, 1000} {
		names := namesUpTo(count)
		var shown, variables []impl.Core
		list, sum := coreCon("[]"), coreInt(0)
		for i, name := range names {
			shown = append(shown, corePrim("primChr", corePrim("primAdd", coreInt(97), coreInt(int64(i%26)))))
			variables = append(variables, coreVar(name))
		}
		for i := range min(count, 300) {
			name := names[count-1-i*(count/min(count, 300))]
			list = coreCon(":", coreVar(name), list)
			sum = corePrim("primAdd", corePrim("primOrd", coreVar(name)), sum)
		}
		body := corePrim("primSeq", sum, list)
		lam := impl.Core{Kind: impl.CLam, Names: names, Kids: []impl.Core{body}}
		half := count / 2
		for what, c := range map[string]impl.Core{
			"a let":        {Kind: impl.CLet, Names: names, Kids: append(slices.Clone(shown), body)},
			"arguments":    coreApp(slices.Concat([]impl.Core{lam}, shown)...),
			"in two parts": coreApp(slices.Concat([]impl.Core{coreApp(slices.Concat([]impl.Core{lam}, shown[:max(half, 1)])...)}, shown[max(half, 1):], shown[:1])...),
			"fields":       coreCase("", []impl.Core{coreCon("C", shown...)}, impl.CoreAlt{Con: "C", Names: names, Body: body}),
			"handed on":    coreApp(slices.Concat([]impl.Core{{Kind: impl.CLam, Names: names, Kids: []impl.Core{coreApp(slices.Concat([]impl.Core{lam}, variables)...)}}}, shown)...),
			"twice over":   {Kind: impl.CLet, Names: names, Kids: append(slices.Clone(shown), coreCase("", []impl.Core{coreCon("C", variables...)}, impl.CoreAlt{Con: "C", Names: names, Body: corePrim("primSeq", sum, coreApp(slices.Concat([]impl.Core{lam}, variables)...))}))},
		} {
			got := checkRuns17(t, c, 1, "", impl.MaxSteps)
			if what != "in two parts" && (got.End != impl.EndDone || len(got.Out) != min(count, 300)) {
				t.Errorf("%d things, %s: %v", count, what, got)
			}
		}
	}
}

// A variable that is handed on from call to call very often is found without calls in each other, when it is asked for at last.
func TestVariablesHandedOnVeryOften(t *testing.T) {
	defer debug.SetMaxStack(debug.SetMaxStack(smallStack))
	const turns = 200000
	for _, count := range []int{2, 8, 9, 12, 40} {
		names := namesUpTo(count)
		n, last := coreVar(names[0]), coreVar(names[count-1])
		again := coreApp(coreVar("f"), corePrim("primSub", n, coreInt(1)))
		for _, name := range names[1:] {
			again.Kids = append(again.Kids, coreVar(name))
		}
		body := coreCase("", []impl.Core{corePrim("primEq", n, coreInt(0))}, coreAlt("True", corePrim("primSeq", last, last)), coreAlt("False", again))
		first := append([]impl.Core{coreVar("f"), coreInt(turns)}, slices.Repeat([]impl.Core{coreString("kept")}, count-1)...)
		c := coreLet("f", impl.Core{Kind: impl.CLam, Names: names, Kids: []impl.Core{body}}, coreApp(first...))
		if got, want := impl.Meaning(c, 1, "", impl.MaxSteps), (impl.Outcome{Out: "kept", Steps: 9*turns + 11}); got != want {
			t.Errorf("of %d arguments it tells %v", count, got)
		}
	}
}
