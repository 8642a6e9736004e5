package tests

import (
	"slices"
	"sync"
	"testing"

	"loop.example/g00017/impl"
)

const toldText = "told"

// valueless has terms that come to no value, to stand for a name: errors, what asks for itself, what never ends, and what is stuck.
func valueless(name string) []impl.Core {
	own := coreVar(name)
	return []impl.Core{
		readCore(`(primError "e")`),
		readCore("(primDiv 1 0)"),
		own,
		corePrim("primSeq", coreInt(1), own),
		readCore(`((\q -> (q q)) (\q -> (q q)))`),
		readCore("(1 2)"),
	}
}

// askedIn has a closed term that tells something exactly if another one comes to a value where its names stand for terms.
func askedIn(c impl.Core, names []string, terms []impl.Core) impl.Core {
	kids := append(slices.Clone(terms), corePrim("primSeq", c, coreString(toldText)))
	return impl.Core{Kind: impl.CLet, Names: names, Kids: kids}
}

// comesToValue runs a term where its names stand for terms.
func comesToValue(t *testing.T, c impl.Core, names []string, terms []impl.Core, steps int64) bool {
	t.Helper()
	whole := askedIn(c, names, terms)
	o := impl.Meaning(whole, 1, "", steps)
	switch o.End {
	case impl.EndDone:
		if o.Out != toldText {
			t.Errorf("%s\ntells %q", shortCore(whole), o.Out)
		}
		return true
	case impl.EndError, impl.EndLoop, impl.EndStuck, impl.EndDeep, impl.EndSteps:
		// With few steps it may have come to a value, and be at what is told.
		return o.Out != ""
	}
	t.Errorf("%s\nhas the end %d", shortCore(whole), o.End)
	return false
}

// A valueCount counts pairs of terms and names.
type valueCount struct {
	strict    int // the term is strict in the name
	otherwise int // and comes to a value where the name does
	lazy      int // the term is not, and comes to a value where the name comes to none
	ends      map[int64]int
}

// checkNoValue asks for promise 14 of a term, with terms that come to a value for its names, and answers what it was about.
func checkNoValue(t *testing.T, c impl.Core, names []string, good []impl.Core, steps int64) (count valueCount) {
	t.Helper()
	count.ends = map[int64]int{}
	for i, name := range names {
		isStrict := impl.StrictIn(c, name)
		if isStrict {
			count.strict++
			if comesToValue(t, c, names, good, steps) {
				count.otherwise++
			}
		}
		hasValue := false
		for _, bad := range valueless(name) {
			terms := slices.Clone(good)
			terms[i] = bad
			comes := comesToValue(t, c, names, terms, steps)
			hasValue = hasValue || comes
			if isStrict {
				count.ends[impl.Meaning(askedIn(c, names, terms), 1, "", steps).End]++
			}
			if isStrict && comes {
				t.Errorf("%s is strict in %s, and comes to a value where that is %s", shortCore(c), name, shortCore(bad))
			}
		}
		if hasValue {
			count.lazy++
		}
	}
	return count
}

func (c *valueCount) add(other valueCount) {
	c.strict += other.strict
	c.otherwise += other.otherwise
	c.lazy += other.lazy
	for end, times := range other.ends {
		c.ends[end] += times
	}
}

// check asks that there was enough of each sort.
func (c valueCount) check(t *testing.T, least int) {
	t.Helper()
	if c.strict < 2*least || c.otherwise < least || c.lazy < least {
		t.Errorf("%d were strict, of which %d come to a value otherwise; %d come to one without what has none", c.strict, c.otherwise, c.lazy)
	}
	for _, end := range []int64{impl.EndError, impl.EndLoop, impl.EndSteps, impl.EndStuck} {
		if c.ends[end] < least/10 {
			t.Errorf("few end %d: %v", end, c.ends)
		}
	}
}

// eachInTurn uses drawn things in several goroutines, and adds up what comes out.
func eachInTurn(count int, use func(worker, i int) valueCount) valueCount {
	sum := valueCount{ends: map[int64]int{}}
	var lock sync.Mutex
	var all sync.WaitGroup
	for worker := range 6 {
		all.Go(func() {
			for i := range count {
				one := use(worker, i)
				lock.Lock()
				sum.add(one)
				lock.Unlock()
			}
		})
	}
	all.Wait()
	return sum
}

// Drawn terms that most often have a type.
func TestStrictTypedTermsComeToNoValue(t *testing.T) {
	t.Parallel()
	var makers []*meantMaker
	for worker := range uint64(6) {
		makers = append(makers, newMeantMaker(1700+worker))
	}
	eachInTurn(250, func(worker, i int) valueCount {
		m := makers[worker]
		names, kinds := slices.Clone(m.names(4)), m.kinds(4)
		c := m.within(names, kinds, func() impl.Core { return m.term(m.word("n b c s l p"), 2+i%6) })
		var good []impl.Core
		for _, kind := range kinds {
			good = append(good, m.literal(kind, 1))
		}
		return checkNoValue(t, c, names, good, 2000)
	}).check(t, 300)
}

// Drawn terms without a type, which are often strict in names, and never come to a value.
func TestStrictUntypedTermsComeToNoValue(t *testing.T) {
	t.Parallel()
	var makers []passMaker
	for worker := range uint64(6) {
		m := newPassMaker(1740 + worker)
		m.names = "a b c"
		makers = append(makers, m)
	}
	values := []impl.Core{coreInt(1), coreInt(0), coreCon("C"), coreCon("C", coreInt(2)), coreLam("q", coreInt(3)), coreLam("q", coreVar("q"))}
	eachInTurn(600, func(worker, i int) valueCount {
		m := makers[worker]
		c := m.term(1 + i%4)
		if i%2 == 0 {
			c = m.strictTerm(1 + i%4)
		}
		good := []impl.Core{values[m.IntN(6)], values[m.IntN(6)], values[m.IntN(6)]}
		return checkNoValue(t, c, []string{"a", "b", "c"}, good, 2000)
	}).check(t, 300)
}

// All terms of two forms in each other.
func TestStrictSmallTermsComeToNoValue(t *testing.T) {
	t.Parallel()
	names, strict := []string{"x", "y", "z", "w"}, 0
	good := []impl.Core{coreInt(1), coreLam("q", coreInt(1)), coreCon("A"), coreInt(2)}
	number := 0
	for c := range smallTerms {
		number++
		if number%5 > 0 {
			continue
		}
		for i, name := range names[:2] {
			if !impl.StrictIn(c, name) {
				continue
			}
			strict++
			terms := slices.Clone(good)
			bads := valueless(name)[:5]
			terms[i] = bads[number/5%5]
			if comesToValue(t, c, names, terms, 200) {
				t.Errorf("%s is strict in %s, and comes to a value where that is %s", shortCore(c), name, shortCore(terms[i]))
			}
		}
	}
	if strict < 10000 {
		t.Errorf("%d were strict only", strict)
	}
}

// What is strict in a name that stands nowhere comes to no value, whatever its names stand for.
func TestStrictInANameThatStandsNowhere(t *testing.T) {
	t.Parallel()
	names := []string{"a", "b", "c"}
	m := newPassMaker(1750)
	m.names = "a b c"
	values := []impl.Core{coreInt(1), coreCon("C"), coreCon("C", coreInt(2)), coreLam("q", coreVar("q"))}
	strict := 0
	for i := range 4000 {
		c := m.strictTerm(1 + i%5)
		if !impl.StrictIn(c, "nowhere") {
			continue
		}
		strict++
		for range 4 {
			terms := []impl.Core{values[m.IntN(4)], values[m.IntN(4)], values[m.IntN(4)]}
			if comesToValue(t, c, names, terms, 2000) {
				t.Errorf("%s comes to a value", shortCore(c))
			}
		}
	}
	if strict < 500 {
		t.Errorf("%d were strict only", strict)
	}
}

// Whole programs: where one is strict in a thing, and that is taken out to stand for something without a value, nothing is told.
func TestStrictProgramsComeToNoValue(t *testing.T) {
	t.Parallel()
	strict := 0
	for _, p := range toldPrograms() {
		c, mode := programCore(t, p.main)
		for i, name := range c.Names {
			without := impl.Core{Kind: impl.CLet, Names: slices.Delete(slices.Clone(c.Names), i, i+1), Kids: slices.Delete(slices.Clone(c.Kids), i, i+1)}
			if !impl.StrictIn(without, name) {
				continue
			}
			strict++
			for _, bad := range valueless(name) {
				whole := coreLet(name, bad, without)
				if o := impl.Meaning(whole, mode, p.input, 5000); o.Out != "" || o.End == impl.EndDone || o.End == impl.EndBad {
					t.Errorf("%s tells %q, end %d, without %s", p.main, o.Out, o.End, name)
				}
			}
		}
	}
	if strict < len(toldPrograms())+10 {
		t.Errorf("%d programs are strict in %d things only", len(toldPrograms()), strict)
	}
}

// What a name stands for may end for want of waiting room, too.
func TestStrictTermsWaitInVain(t *testing.T) {
	deep := readCore(`(let p = (\q -> (primAdd 1 (p q))) in (p 1))`)
	for _, text := range []string{"x", "(x 1)", "(primAdd 1 x)", "(primSeq 1 x)", "(let y = z; z = x in (y 1))", "(case 1 of { A -> x; _ -> x })", "(case x of { _ -> 1 })", "(case C of { C -> (let y = x in y); _ -> (primError 1) })"} {
		c := readCore(text)
		o := impl.Meaning(askedIn(c, []string{"x"}, []impl.Core{deep}), 1, "", impl.MaxSteps)
		if !impl.StrictIn(c, "x") || o.End != impl.EndDeep || o.Out != "" {
			t.Errorf("%s tells %q, end %d", text, o.Out, o.End)
		}
	}
}
