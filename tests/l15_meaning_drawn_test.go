package tests

import (
	"math/rand/v2"
	"slices"
	"strings"
	"sync"
	"testing"

	"loop.example/g00017/impl"
)

// A meantMaker draws closed terms that most often have a type: "n" a number, "c" a char, "b" a truth value, "s" a list of chars, "l" one of numbers, "p" a pair of "n" and "s", "f" a function from "n" to "n", "g" one from "n" and "s" to "s", "h" one from "f" to "n".
type meantMaker struct {
	*rand.Rand
	scope []meantName
	odd   int // one of so many terms is of another type
}

type meantName struct{ name, kind string }

const meantKinds = "n c b s l p f g h"

func newMeantMaker(seed uint64) *meantMaker {
	return &meantMaker{Rand: rand.New(rand.NewPCG(15, seed)), odd: 60}
}

func (m *meantMaker) word(words string) string {
	list := strings.Fields(words)
	return list[m.IntN(len(list))]
}

// variable draws a name that stands for something of a kind, and is hidden by none.
func (m *meantMaker) variable(kind string) (c impl.Core, found bool) {
	var names []string
	hidden := map[string]bool{}
	for _, one := range slices.Backward(m.scope) {
		if one.kind == kind && !hidden[one.name] {
			names = append(names, one.name)
		}
		hidden[one.name] = true
	}
	if len(names) == 0 {
		return impl.Core{}, false
	}
	return coreVar(names[m.IntN(len(names))]), true
}

// within draws in the reach of names.
func (m *meantMaker) within(names, kinds []string, draw func() impl.Core) impl.Core {
	before := len(m.scope)
	for i, name := range names {
		m.scope = append(m.scope, meantName{name, kinds[i]})
	}
	c := draw()
	m.scope = m.scope[:before:before]
	return c
}

// names draws different ones of a few, so that many hide others.
func (m *meantMaker) names(count int) []string {
	list := strings.Fields("a b c d e u v w x y z")
	m.Shuffle(len(list), func(i, j int) { list[i], list[j] = list[j], list[i] })
	return list[:count]
}

func (m *meantMaker) kinds(count int) []string {
	var list []string
	for range count {
		list = append(list, m.word(meantKinds+" f g n s"))
	}
	return list
}

func (m *meantMaker) term(kind string, levels int) impl.Core {
	if m.IntN(m.odd) == 0 {
		kind = m.word(meantKinds)
	}
	if levels <= 0 || m.IntN(6) == 0 {
		if c, found := m.variable(kind); found && m.IntN(4) > 0 {
			return c
		}
	}
	if levels <= 0 {
		return m.literal(kind, levels)
	}
	levels -= 1 + m.IntN(2)
	switch m.IntN(14) {
	case 0, 1:
		return m.let(kind, levels)
	case 2, 3:
		return m.choice(kind, levels)
	case 4:
		return m.called(kind, levels)
	case 5:
		return corePrim("primSeq", m.term(m.word(meantKinds), levels), m.term(kind, levels))
	case 6:
		if m.IntN(5) == 0 {
			return corePrim("primError", m.term("s", levels))
		}
	}
	return m.own(kind, levels)
}

// literal draws a value.
func (m *meantMaker) literal(kind string, levels int) impl.Core {
	switch kind {
	case "n":
		if m.IntN(12) == 0 {
			return impl.Core{Kind: impl.CInt, Big: bigFrom(power(uint(600+m.IntN(680)), -1))}
		}
		return coreInt(m.Int64N(9) - 3)
	case "c":
		return coreChar(m.word("a b c"))
	case "b":
		return coreCon(m.word("True False"))
	case "s":
		if m.IntN(2) == 0 {
			return coreString(m.word("x yz text"))
		}
		return coreCon("[]")
	case "l":
		return coreCon("[]")
	case "p":
		return coreCon("P", m.literal("n", levels), m.literal("s", levels))
	}
	return m.lambda(kind, levels)
}

func (m *meantMaker) lambda(kind string, levels int) impl.Core {
	names := m.names(2)
	switch kind {
	case "f":
		return m.function(names[:1], []string{"n"}, "n", levels)
	case "g":
		if m.IntN(3) == 0 {
			inner := func() impl.Core { return m.function(names[1:], []string{"s"}, "s", levels) }
			return impl.Core{Kind: impl.CLam, Names: names[:1], Kids: []impl.Core{m.within(names[:1], []string{"n"}, inner)}}
		}
		return m.function(names, []string{"n", "s"}, "s", levels)
	}
	return m.function(names[:1], []string{"f"}, "n", levels)
}

func (m *meantMaker) function(names, kinds []string, result string, levels int) impl.Core {
	body := m.within(names, kinds, func() impl.Core { return m.term(result, levels) })
	return impl.Core{Kind: impl.CLam, Names: slices.Clone(names), Kids: []impl.Core{body}}
}

func (m *meantMaker) let(kind string, levels int) impl.Core {
	names, kinds := m.names(1+m.IntN(3)), m.kinds(3)
	c := impl.Core{Kind: impl.CLet, Names: slices.Clone(names)}
	m.within(names, kinds, func() impl.Core {
		for i := range names {
			c.Kids = append(c.Kids, m.term(kinds[i], levels))
		}
		c.Kids = append(c.Kids, m.term(kind, levels))
		return c
	})
	return c
}

// called draws a lambda with arguments: as many as names, fewer at a time, or more by what comes out.
func (m *meantMaker) called(kind string, levels int) impl.Core {
	names, kinds := m.names(1+m.IntN(3)), m.kinds(3)
	var args []impl.Core
	for i := range names {
		args = append(args, m.term(kinds[i], levels))
	}
	c := m.function(names, kinds, kind, levels)
	if len(names) > 1 && m.IntN(3) == 0 {
		inner := impl.Core{Kind: impl.CLam, Names: c.Names[1:], Kids: c.Kids}
		c = impl.Core{Kind: impl.CLam, Names: c.Names[:1:1], Kids: []impl.Core{inner}}
	}
	if len(names) > 1 && m.IntN(3) == 0 {
		return coreApp(slices.Concat([]impl.Core{coreApp(c, args[0])}, args[1:])...)
	}
	return coreApp(slices.Concat([]impl.Core{c}, args)...)
}

// choice draws a case of some kind of value; now and then an alternative is left out, or has another number of names.
func (m *meantMaker) choice(kind string, levels int) impl.Core {
	looked := m.word("b s l p n c")
	c := impl.Core{Kind: impl.CCase, Kids: []impl.Core{m.term(looked, levels)}}
	var around []string
	if m.IntN(3) == 0 {
		c.Name = m.names(1)[0]
		around = []string{c.Name}
	}
	heads := map[string]string{"b": "True;False", "s": "[];: c s", "l": "[];: n l", "p": "P n s"}[looked]
	m.within(around, []string{looked}, func() impl.Core {
		for _, head := range strings.Split(heads, ";") {
			if words := strings.Fields(head); len(words) > 0 && m.IntN(12) > 0 {
				c.Alts = append(c.Alts, m.alternative(words, kind, levels))
			}
		}
		if len(c.Alts) == 0 || m.IntN(3) == 0 {
			c.Kids = append(c.Kids, m.term(kind, levels))
		}
		return c
	})
	return c
}

func (m *meantMaker) alternative(words []string, kind string, levels int) impl.CoreAlt {
	count := len(words) - 1
	if m.IntN(25) == 0 {
		count = m.IntN(3)
	}
	names := m.names(count)
	kinds := slices.Concat(words[1:], []string{"n", "s"})
	body := m.within(names, kinds, func() impl.Core { return m.term(kind, levels) })
	return impl.CoreAlt{Con: words[0], Names: slices.Clone(names), Body: body}
}

// own draws what only this kind is made by.
func (m *meantMaker) own(kind string, levels int) impl.Core {
	two := func(words, kind string) impl.Core {
		return corePrim(m.word(words), m.term(kind, levels), m.term(kind, levels))
	}
	switch kind {
	case "n":
		switch m.IntN(7) {
		case 0:
			return corePrim("primOrd", m.term("c", levels))
		case 1:
			return coreApp(m.term("f", levels), m.term("n", levels))
		case 2:
			return coreApp(m.term("h", levels), m.term("f", levels))
		}
		return two("primAdd primSub primMul primDiv primMod", "n")
	case "c":
		return corePrim("primChr", corePrim("primAdd", coreInt(m.Int64N(250)), m.term("n", levels)))
	case "b":
		return two("primEq primLess", "n")
	case "s":
		switch m.IntN(4) {
		case 0:
			return corePrim("primShow", m.term("n", levels))
		case 1:
			return coreApp(m.term("g", levels), m.term("n", levels), m.term("s", levels))
		case 2:
			return coreApp(coreApp(m.term("g", levels), m.term("n", levels)), m.term("s", levels))
		}
		return coreCon(":", m.term("c", levels), m.term("s", levels))
	case "l":
		return coreCon(":", m.term("n", levels), m.term("l", levels))
	case "p":
		return coreCon("P", m.term("n", levels), m.term("s", levels))
	}
	return m.lambda(kind, levels)
}

// drawn has a term of some levels: a list of chars, or a filter of one.
func (m *meantMaker) drawn(levels int) (c impl.Core, mode int64) {
	if m.IntN(5) == 0 {
		return m.function(m.names(1), []string{"s"}, "s", levels), 2
	}
	return m.term("s", levels), 1
}

// Drawn terms, each held against the second reading and run again with other steps.
func TestDrawnTermsMean(t *testing.T) {
	t.Parallel()
	var lock sync.Mutex
	ends, errors, told := map[int64]int{}, map[string]int{}, 0
	var all sync.WaitGroup
	for worker := range uint64(8) {
		all.Go(func() {
			m := newMeantMaker(worker)
			for i := range 500 {
				c, mode := m.drawn(3 + i%9)
				before := coreText(c)
				got := checkRuns17(t, c, mode, "input", 3000)
				if coreText(c) != before {
					t.Errorf("%s is changed", before)
				}
				lock.Lock()
				ends[got.End]++
				errors[got.Error]++
				told += min(len(got.Out), 1)
				lock.Unlock()
			}
		})
	}
	all.Wait()
	for _, end := range []int64{impl.EndDone, impl.EndError, impl.EndLoop, impl.EndSteps, impl.EndOut, impl.EndStuck} {
		if ends[end] < 5 {
			t.Errorf("few end %d: %v", end, ends)
		}
	}
	if errors["too large"] < 5 || errors["division by zero"] < 5 || errors["no char"] < 5 || told < 1000 {
		t.Errorf("of %v %d are too large, %d divisions by zero, %d no chars, %d tell something", ends, errors["too large"], errors["division by zero"], errors["no char"], told)
	}
}
