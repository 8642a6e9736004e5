package tests

import (
	"slices"
	"strings"
	"sync"
	"testing"

	"loop.example/g00017/impl"
)

// passes draws a list of passes.
func (m *wholeMaker) passes() []int64 {
	var list []int64
	for range 1 + m.IntN(10) {
		list = append(list, 1+m.Int64N(6))
	}
	return list
}

// A tally counts what comes up in several goroutines.
type tally struct {
	sync.Mutex
	counts map[string]int
}

func (y *tally) add(what string) {
	y.Lock()
	defer y.Unlock()
	y.counts[what]++
}

// byTheirClauses has what a program tells by its clauses, or ? if it comes to no end.
func byTheirClauses(list []impl.Node, input string) string {
	p := runProgramOf(list, "Main.main")
	r := &runner{arity: p.arity}
	global := r.block(p.binds, nil)
	return r.told(200000, func(out *strings.Builder) {
		v := global.find("Main.main").force()
		if v.call != nil {
			v = v.call(doneCell(runText(input)))
		}
		r.tellChars(out, v)
	})
}

// leavesOut says whether something is left out somewhere.
func leavesOut(warnings []impl.Warning) bool {
	return slices.ContainsFunc(warnings, func(w impl.Warning) bool { return w.Kind == 1 })
}

// wantOfMatch has the thing in which no clause or alternative matched, if a run has ended so.
func wantOfMatch(o impl.Outcome) string {
	where, isMatch := strings.CutPrefix(o.Error, "no match in ")
	if !isMatch || where == "lambda" || where == "lazy" {
		return ""
	}
	return where
}

// The machine tells what the core means, and this what the clauses say. A program of which nothing is left out never ends for want of a match.
func TestDrawnSourcesTellWhatTheyMean(t *testing.T) {
	t.Parallel()
	seen := tally{counts: map[string]int{}}
	withWholes(t, 3, 8, func(m *wholeMaker, texts []string) {
		all := strings.Join(texts[1:], "\n")
		list, _ := treesOf(texts)
		checked := impl.Check(texts)
		c := wholeCall{texts, nil, m.one("", "a", "a\nbab\n", "'\"\\\x00\xff\n\n"), impl.MaxSteps, impl.MaxHeap}
		got := c.answer().Outcome
		want := impl.Meaning(checked.Core, checked.Code, c.input, impl.MaxSteps/4)
		isSame := got.End == want.End && got.Out == want.Out && got.Error == want.Error
		if !impl.Stands(want, got) || !isSame && !hasNoRoom(want) || got.End == impl.EndStuck || got.End == impl.EndBad {
			t.Errorf("%s\ntells %s, and means %s", all, shortOutcome(got), shortOutcome(want))
		}
		if told, said := meantTold(got), byTheirClauses(list, c.input); told != said && told != "?" && said != "?" {
			t.Errorf("%s\ntells %q, and its clauses %q", all, told, said)
		}
		where := wantOfMatch(got)
		if where != "" && !leavesOut(checked.Warnings) {
			t.Errorf("%s\nleaves nothing out, and has no match in %s", all, where)
		}
		if m.isSure == leavesOut(checked.Warnings) && m.isSure {
			t.Errorf("%s\nleaves something out: %v", all, checked.Warnings)
		}
		seen.add("end " + string(rune('0'+got.End)))
		if where != "" {
			seen.add("no match")
		}
		if !leavesOut(checked.Warnings) {
			seen.add("sure")
		}
	})
	if c := seen.counts; c["end 0"] < 20 || c["end 1"] < 10 || c["no match"] < 3 || c["sure"] < 25 {
		t.Errorf("there are %v", c)
	}
}

// Whatever passes: what the machine tells may stand for what the core means.
func TestDrawnSourcesBehindPasses(t *testing.T) {
	t.Parallel()
	seen := tally{counts: map[string]int{}}
	withWholes(t, 4, 4, func(m *wholeMaker, texts []string) {
		checked := impl.Check(texts)
		c := wholeCall{texts, nil, "a\nb", impl.MaxSteps, impl.MaxHeap}
		want := impl.Meaning(checked.Core, checked.Code, c.input, impl.MaxSteps/8)
		plain := c.answer()
		lists := [][]int64{{1}, {2}, {3}, {4}, {5}, {6}}
		for range 4 {
			lists = append(lists, m.passes())
		}
		for _, list := range lists {
			c.passes = list
			got := c.answer()
			if !impl.Stands(want, got.Outcome) || got.Outcome.End == impl.EndStuck || got.Outcome.End == impl.EndBad {
				t.Errorf("%s\nbehind %v tells %s, and means %s", strings.Join(texts[1:], "\n"), list, shortRun(got), shortOutcome(want))
			}
			// Lists of passes are their passes one by one.
			core := checked.Core
			for _, pass := range list {
				core = impl.RunPass(core, pass).Core
			}
			if one := impl.RunForms(impl.FormsOf(core), checked.Code, c.input, c.steps, c.heap); one != got {
				t.Errorf("%s\nbehind %v tells %s, and one by one %s", strings.Join(texts[1:], "\n"), list, shortRun(got), shortRun(one))
			}
			if got != plain {
				seen.add("changed")
			}
			if got.Outcome.End == impl.EndDone {
				seen.add("done")
			}
		}
	})
	if seen.counts["changed"] < 150 || seen.counts["done"] < 100 {
		t.Errorf("there are %v", seen.counts)
	}
}

// In runs of as many steps as it took the same, with fewer a beginning; in heaps that are large enough the same.
func TestDrawnSourcesWithStepsAndHeaps(t *testing.T) {
	t.Parallel()
	seen := tally{counts: map[string]int{}}
	withWholes(t, 5, 4, func(m *wholeMaker, texts []string) {
		c := wholeCall{texts, nil, "in", 300000, impl.MaxHeap}
		if m.IntN(2) == 0 {
			c.passes = m.passes()
		}
		want := c.answer()
		took := want.Outcome.Steps
		with := func(steps, heap int64) impl.RunResult {
			return wholeCall{c.texts, c.passes, c.input, steps, heap}.answer()
		}
		what := strings.Join(texts[1:], "\n")
		if got := with(took, c.heap); got != want {
			t.Errorf("%s\nwith %d steps tells %s, not %s", what, took, shortRun(got), shortRun(want))
		}
		if got := with(min(took*2, impl.MaxSteps), c.heap); got != want && want.Outcome.End != impl.EndSteps {
			t.Errorf("%s\nwith more steps tells %s, not %s", what, shortRun(got), shortRun(want))
		}
		for range 3 {
			steps := 1 + m.Int64N(max(1, took-1))
			got := with(steps, c.heap)
			if o := got.Outcome; steps < took && (o.End != impl.EndSteps || o.Steps != steps || !isFurther(got, want)) {
				t.Errorf("%s\nwith %d steps tells %s, not a beginning of %s", what, steps, shortRun(got), shortRun(want))
			}
		}
		for _, heap := range []int64{100, want.Peak / 2, want.Peak - 1, want.Peak} {
			heap = min(max(heap, 100), impl.MaxHeap)
			got := with(c.steps, heap)
			isSame := got.Outcome == want.Outcome && got.Made == want.Made && got.Updates == want.Updates
			isFull := got.Outcome.End == impl.EndHeap && strings.HasPrefix(want.Outcome.Out, got.Outcome.Out)
			if got.Peak > heap || !isSame && !isFull {
				t.Errorf("%s\nin a heap of %d tells %s, not %s", what, heap, shortRun(got), shortRun(want))
			}
			switch {
			case isFull:
				seen.add("full")
			case got.Collections > 0:
				seen.add("collected")
			}
		}
	})
	if seen.counts["collected"] < 10 || seen.counts["full"] < 10 {
		t.Errorf("there are %v", seen.counts)
	}
}

// What is told of drawn programs of other makers, with faults and without, is what the parts tell.
func TestDrawnProgramsAreTold(t *testing.T) {
	t.Parallel()
	stages := tally{counts: map[string]int{}}
	look := func(texts []string) {
		stages.add(string(rune('0' + checkWhole(t, texts...).Stage)))
		c := wholeCall{texts, []int64{1, 2}, "in", 2000, 5000}
		c.check(t)
		checkServed(t, c.request())
	}
	withWholes(t, 6, 2, func(m *wholeMaker, texts []string) {
		look(texts)
		for range 6 {
			own := slices.Clone(texts)
			at := 1 + m.IntN(3)
			own[at] = m.spoilt(own[at])
			look(own)
		}
		m.Shuffle(len(texts), func(i, j int) { texts[i], texts[j] = texts[j], texts[i] })
		look(texts)
		look(append(slices.Clip(texts), texts[m.IntN(4)]))
		look(texts[1:])
	})
	if c := stages.counts; c["0"] < 30 || c["1"] < 10 || c["2"] < 20 || c["3"] < 10 {
		t.Errorf("there are %v", c)
	}
}

// spoilt has a text in which a token is another one, or gone.
func (m *wholeMaker) spoilt(text string) string {
	tokens := impl.Lex(text).Tokens
	at := m.IntN(len(tokens))
	switch other := tokens[m.IntN(len(tokens))]; m.IntN(4) {
	case 0:
		tokens = slices.Delete(tokens, at, at+1)
	case 1:
		tokens[at] = other
	default:
		// One of the same kind, so that it is read most often.
		for range 200 {
			if other.Kind == tokens[at].Kind && other.Text != tokens[at].Text && other.Kind != impl.TokWord && other.Kind != impl.TokSpecial {
				break
			}
			at, other = m.IntN(len(tokens)), tokens[m.IntN(len(tokens))]
		}
		tokens[at] = other
	}
	return impl.SpellAll(tokens) + "\n"
}

// The second readings of all layers tell the same of drawn programs.
func TestDrawnProgramsAsTheSecondReadingsHaveThem(t *testing.T) {
	t.Parallel()
	m := newWholeMaker(700)
	texts := m.program(t)
	checkWholeBy(t, checkByParts, texts)
	r := &runMaker{Rand: m.Rand}
	for range 6 {
		text := strings.Replace(r.module(3, 3), "module M", "module Main", 1)
		text = strings.TrimSuffix(text, "}") + "; main = primShow (case f4 of { _ -> 1 }) }\n"
		checkWholeBy(t, checkSlowly, []string{text})
		c := wholeCall{[]string{text}, nil, "", 5000, 3000}
		checked := checkSlowly(c.texts)
		for _, list := range passLists()[5:9] {
			passed := passesSlowly(checked.Core, list[:min(2, len(list))])
			c.passes = list[:min(2, len(list))]
			want, _ := slowRun{formsSlowly(passed.Core), checked.Code, c.input, c.steps, c.heap}.slowly()
			if got := c.answer(); got != want {
				t.Errorf("%s\nbehind %v tells %s, not %s", text, c.passes, shortRun(got), shortRun(want))
			}
		}
	}
}
