package tests

import (
	"testing"

	"loop.example/g00017/impl"
)

// Behind a change a term may be strict in a name in which it was not, as it binds that no longer around what never comes to a value: then the rule applies further out.
func TestPassStrictAsksForMoreBehindChanges(t *testing.T) {
	checkPassRows(t, impl.PassStrict, []passRow{
		{`(let x = (f 1) in (let x = (primError 1) in x))`, `(case (f 1) of x { _ -> (case (primError 1) of x { _ -> x }) })`},
		{`(let x = (f 1) in (let x = (g 1) in x))`, `(let x = (f 1) in (case (g 1) of x { _ -> x }))`},
		{`(let x = (f 1) in (let y = (primError 1) in y))`, `(case (f 1) of x { _ -> (case (primError 1) of y { _ -> y }) })`},
		// Not out of a field, an argument, a function's body, or the kid of a name that is not asked for.
		{`(let x = (f 1) in (C (let x = (primError 1) in x)))`, `(let x = (f 1) in (C (case (primError 1) of x { _ -> x })))`},
		{`(let x = (f 1) in (g (let x = (primError 1) in x)))`, `(let x = (f 1) in (g (case (primError 1) of x { _ -> x })))`},
		{`(let x = (f 1) in ((let x = (primError 1) in x) g))`, `(case (f 1) of x { _ -> ((case (primError 1) of x { _ -> x }) g) })`},
		{`(let x = (f 1) in (\y -> (let x = (primError 1) in x)))`, `(let x = (f 1) in (\y -> (case (primError 1) of x { _ -> x })))`},
		{`(let x = (f 1) in (let y = (let x = (primError 1) in x) in (C y)))`, `(let x = (f 1) in (let y = (case (primError 1) of x { _ -> x }) in (C y)))`},
		{`(let x = (f 1) in (let y = (let x = (primError 1) in x) in (y 1)))`, `(case (f 1) of x { _ -> (case (case (primError 1) of x { _ -> x }) of y { _ -> (y 1) }) })`},
		{`(let x = (f 1) in (primAdd 1 (let x = (primError 1) in x)))`, `(case (f 1) of x { _ -> (primAdd 1 (case (primError 1) of x { _ -> x })) })`},
		// Out of alternatives, if all others are strict, and none binds the name.
		{`(let x = (f 1) in (case (let x = (primError 1) in x) of { _ -> 1 }))`, `(case (f 1) of x { _ -> (case (case (primError 1) of x { _ -> x }) of { _ -> 1 }) })`},
		{`(let x = (f 1) in (case g of { A -> (let x = (primError 1) in x); _ -> x }))`, `(case (f 1) of x { _ -> (case g of { A -> (case (primError 1) of x { _ -> x }); _ -> x }) })`},
		{`(let x = (f 1) in (case g of { A -> x; _ -> (let x = (primError 1) in x) }))`, `(case (f 1) of x { _ -> (case g of { A -> x; _ -> (case (primError 1) of x { _ -> x }) }) })`},
		{`(let x = (f 1) in (case g of { A -> (let x = (primError 1) in x); _ -> 1 }))`, `(let x = (f 1) in (case g of { A -> (case (primError 1) of x { _ -> x }); _ -> 1 }))`},
		{`(let x = (f 1) in (case g of { A x -> (let x = (primError 1) in x) }))`, `(let x = (f 1) in (case g of { A x -> (case (primError 1) of x { _ -> x }) }))`},
		{`(let x = (f 1) in (case g of { A x -> 1; _ -> (let x = (primError 1) in x) }))`, `(let x = (f 1) in (case g of { A x -> 1; _ -> (case (primError 1) of x { _ -> x }) }))`},
		{`(let x = (f 1) in (case g of x { _ -> (let x = (primError 1) in x) }))`, `(let x = (f 1) in (case g of x { _ -> (case (primError 1) of x { _ -> x }) }))`},
		// Through names of other lets, and further out by what their kids ask for.
		{`(let u = (f 1) in (let x = u; y = 1 in (let x = (primError 1) in x)))`, `(case (f 1) of u { _ -> (let x = u; y = 1 in (case (primError 1) of x { _ -> x })) })`},
		{`(let y = (f 1) in (let x = y; z = 1 in (let y = x in (let x = (primError 1) in x))))`, `(case (f 1) of y { _ -> (let x = y; z = 1 in (let y = x in (case (primError 1) of x { _ -> x }))) })`},
		{`(let v = (f 1) in (let a = b; b = v; c = 1 in (let v = 2 in (let a = (primError 1) in a))))`, `(case (f 1) of v { _ -> (let a = b; b = v; c = 1 in (let v = 2 in (case (primError 1) of a { _ -> a }))) })`},
		{`(let v = (f 1) in (let a = b; b = v; v = 1 in (let a = (primError 1) in a)))`, `(let v = (f 1) in (let a = b; b = v; v = 1 in (case (primError 1) of a { _ -> a })))`},
		{`(let u = (f 1) in (let u = 1; v = 2 in (let w = (g u) in (let v = (primError 1) in (let w = (primError 2) in w)))))`, `(let u = (f 1) in (let u = 1; v = 2 in (case (g u) of w { _ -> (case (primError 1) of v { _ -> (case (primError 2) of w { _ -> w }) }) })))`},
		// A name that is lost by a change further in is so when its own turn comes.
		{`(let x = (f 1) in (let x = (let x = (primError 1) in x) in (let x = (primError 2) in x)))`, `(case (f 1) of x { _ -> (case (case (primError 1) of x { _ -> x }) of x { _ -> (case (primError 2) of x { _ -> x }) }) })`},
		{`(let x = (f 1) in (let x = (primSeq (let x = (primError 1) in 1) (let x = (primError 2) in x)) in (let x = (primError 3) in x)))`, `(case (f 1) of x { _ -> (case (primSeq (let x = (primError 1) in 1) (case (primError 2) of x { _ -> x })) of x { _ -> (case (primError 3) of x { _ -> x }) }) })`},
		{`(let x = (f 1) in (let x = (C (let x = (primError 1) in x)) in (let x = (primError 3) in x)))`, `(let x = (f 1) in (let x = (C (case (primError 1) of x { _ -> x })) in (case (primError 3) of x { _ -> x })))`},
	})
}

// letTerm draws lets in each other with few names, in kids and last kids, and errors.
func (m passMaker) letTerm(levels int) impl.Core {
	failing := corePrim("primError", coreInt(1))
	if levels < 1 {
		switch m.IntN(5) {
		case 0:
			return coreInt(1)
		case 1, 2:
			return failing
		}
		return coreVar(m.some(1, 1)[0])
	}
	inner := func() impl.Core { return m.letTerm(levels - 1 - m.IntN(2)) }
	switch m.IntN(9) {
	case 0:
		return corePrim("primSeq", inner(), inner())
	case 1:
		return coreApp(inner(), inner())
	case 2:
		made := coreCase("", []impl.Core{inner(), inner()}, impl.CoreAlt{Con: "A", Names: m.some(0, 1), Body: inner()})
		if m.IntN(3) == 0 {
			made.Name = m.some(1, 1)[0]
		}
		return made
	case 3:
		return impl.Core{Kind: impl.CLet, Names: m.some(2, 2), Kids: []impl.Core{inner(), inner(), inner()}}
	}
	return impl.Core{Kind: impl.CLet, Names: m.some(1, 1), Kids: []impl.Core{inner(), inner()}}
}

func TestDrawnStrictPassesOfLets(t *testing.T) {
	t.Parallel()
	m := newPassMaker(1770)
	m.names = "a b"
	times := 0
	for i := range 15000 {
		c := m.letTerm(2 + i%5)
		want, done := passSlowly(c, impl.PassStrict)
		times += done
		if got := impl.RunPass(c, impl.PassStrict); passedText(got) != passedText(impl.CoreResult{Core: want}) {
			t.Errorf("strict makes of %s\n%s, not\n%s", shortCore(c), shortCore(got.Core), shortCore(want))
		}
	}
	if times < 20000 {
		t.Errorf("the rule was done %d times only", times)
	}
}
